/-
  Texts behind the statements of this seat: part 10.
-/
import Derived.Test.YtbnkpnllgoghnaaGreatQi
import Derived.Test.YtbnkpnllgoghnaaGreatQf
import Derived.Test.YtbnkpnllgoghnaaGreatQd
import Derived.Deep.Cut
import Derived.Deep.DeepCutAuto
import Derived.Deep.CutBlock
import Derived.Deep.CutRange
import Derived.RegionTactic
import Derived.WalkSpells
set_option linter.unusedVariables false

namespace Go.Proofs.YtbnkpnllgoghnaaGreat.PmV
open Go.ChangeShapes Go.WideShapes Go.ChangeAt Go.RowKit
open Go.Proofs.YtbnkpnllgoghnaaGreat.Mem Go.Proofs.YtbnkpnllgoghnaaGreat.Blk Go.Proofs.YtbnkpnllgoghnaaGreat.Cells Go.Proofs.YtbnkpnllgoghnaaGreat.Orow Go.Proofs.YtbnkpnllgoghnaaGreat.GrC Go.Proofs.YtbnkpnllgoghnaaGreat.MdM Go.Proofs.YtbnkpnllgoghnaaGreat.MdC Go.Proofs.YtbnkpnllgoghnaaGreat.MdR Go.Proofs.YtbnkpnllgoghnaaGreat.MdD Go.Proofs.YtbnkpnllgoghnaaGreat.PmC Go.Proofs.YtbnkpnllgoghnaaGreat.PmI Go.Proofs.YtbnkpnllgoghnaaGreat.PmM Go.Proofs.YtbnkpnllgoghnaaGreat.PmP Go.Proofs.YtbnkpnllgoghnaaGreat.PmT Go.Proofs.YtbnkpnllgoghnaaGreat.PmU Go.Proofs.YtbnkpnllgoghnaaGreat.PmR Go.Proofs.YtbnkpnllgoghnaaGreat.PmK Go.Proofs.YtbnkpnllgoghnaaGreat.Stages Go.Proofs.YtbnkpnllgoghnaaGreat.Trees
theorem sizeU8 : (Tryz.prog.info? 5).map (·.size) = some 1 := by kernel_rfl
section
variable {w w0 w1 : World} {G F X : Nat → Prop} {v : Value} {gT cT gB cB gH cH r b c n u : Nat} {qb cb q cp : Nat → Nat} {a a' : Md} {k : Nat} {o : MdOp} {D A : Option Addr} {dl dc : Nat} {B zs : List Int}
theorem read_good {p : Nat} (h : fits o.o o.n) : a.read o.o o.n p = (⟨0, 0, 0, ((a.B p).drop o.o.toNat).take o.n.toNat⟩, a) := if_neg (by obtain ⟨h1, h2, h3⟩ := h; omega)
theorem read_bad {p : Nat} (h : ¬ fits o.o o.n) : a.read o.o o.n p = (err 6, a) := if_pos (by unfold fits at h; omega)
theorem write_good {p : Nat} (h : fits o.o (o.d.length : Int)) : a.write o.o o.d p = (err 0, a.putB p (MdM.splice (a.B p) o.o.toNat o.d)) := if_neg (by obtain ⟨h1, h2, h3⟩ := h; omega)
theorem write_bad {p : Nat} (h : ¬ fits o.o (o.d.length : Int)) : a.write o.o o.d p = (err 6, a) := if_pos (by unfold fits at h; omega)
/-- Where a row's slice begins, cut in front. -/
def cutA (b u c : Nat) : Addr := if c = u then ⟨b, 0, none⟩ else ⟨b, u, none⟩
theorem slice_row (b c u m : Nat) (h : u + m ≤ c) (w : World) : (Instr.sliceAt 22 (.slice (some ⟨b, 0, none⟩) 16 c) (some (.int .i64 (u : Int))) (some (.int .i64 ((u : Int) + (m : Int)))) none).run Tryz.prog w = .ok (.slice (some (cutA b u c)) m (c - u)) w := by
  obtain ⟨i0, hi, hz0, hz1, hz2⟩ := info_parts MdC.infoU8
  have hel : Tryz.prog.elem 22 = 5 := by kernel_rfl
  rw [run_sliceAt_slice _ _ _ _ _ _ (by rw [hel]; exact Tryz.underlying22), run_slice_lh w 22 _ _ _ (by rw [hel]; exact Tryz.underlying22) .i64 .i64 (u : Int) ((u : Int) + (m : Int)) (by omega) (by omega) (by omega)]
  rw [hel]
  simp only [sizeOf, typeInfo, Result.andThen, sliced, Sem.run_bind, Int.toNat_natCast]
  rw [show ((u : Int) + (m : Int)).toNat = u + m by omega]
  unfold cutA
  by_cases e : c = u
  · simp [e, hi, hz1] <;> omega
  · simp [e, hi, hz1, add_off]
theorem slice_from (b c u : Nat) (h : u ≤ 16) (w : World) : (Instr.sliceAt 22 (.slice (some ⟨b, 0, none⟩) 16 c) (some (.int .i64 (u : Int))) none none).run Tryz.prog w = .ok (.slice (some (cutA b u c)) (16 - u) (c - u)) w := by
  obtain ⟨i0, hi, hz0, hz1, hz2⟩ := info_parts MdC.infoU8
  have hel : Tryz.prog.elem 22 = 5 := by kernel_rfl
  rw [run_sliceAt_slice _ _ _ _ _ _ (by rw [hel]; exact Tryz.underlying22), run_slice_l w 22 _ _ _ (by rw [hel]; exact Tryz.underlying22) .i64 (u : Int) (by omega) (by omega)]
  rw [hel]
  simp only [sizeOf, typeInfo, Result.andThen, sliced, Sem.run_bind, Int.toNat_natCast]
  unfold cutA
  by_cases e : c = u
  · simp [e, hi, hz1]
  · simp [e, hi, hz1, add_off]
theorem sl_cut {m : Nat} (h : OR w b 5 1 c 16 (ucell B)) (hl : B.length = 16) (hc : 16 ≤ c) (hum : u + m ≤ 16) : Sl w w.heap.size .u8 (some (cutA b u c)) m ((B.drop u).take m) := by
  refine ⟨by rw [List.length_take, List.length_drop, hl]; omega, fun hm => ⟨b, u, ?_, h.lt, fun j hj => ?_⟩⟩
  · unfold cutA
    rw [if_neg (by omega)]
  · rw [h.cell (by omega)]
    unfold ucell
    simp [List.getD_eq_getElem?_getD, hj]
theorem splice_cell {d : List Int} (hl : B.length = 16) (h : u + d.length ≤ 16) {j : Nat} (_hj : j < 16) : (MdM.splice B u d).getD j 0 = if u ≤ j ∧ j < u + d.length then d.getD (j - u) 0 else B.getD j 0 := by
  unfold MdM.splice
  simp only [List.getD_eq_getElem?_getD]
  have h1 : (B.take u).length = u := by rw [List.length_take, hl]; omega
  by_cases e1 : j < u
  · rw [if_neg (by omega), List.append_assoc, List.getElem?_append_left (by omega), List.getElem?_take, if_pos e1]
  · by_cases e2 : j < u + d.length
    · rw [if_pos (by omega), List.append_assoc, List.getElem?_append_right (by omega), h1, List.getElem?_append_left (by omega)]
    · rw [if_neg (by omega), List.append_assoc, List.getElem?_append_right (by omega), h1, List.getElem?_append_right (by omega), List.getElem?_drop]
      congr 2
      omega
theorem copy_body (h : OR w b 5 1 c 16 (ucell B)) (hc : 16 ≤ c) (hl : B.length = 16) (hs : Sl w w.heap.size .u8 A n zs) (hun : u + n ≤ 16) (cc : Nat) :
    ∃ w', (∀ ty, (Builtin.copy_ #[22, 22] ty #[.slice (some (cutA b u c)) (16 - u) (c - u), .slice A n cc]).run Tryz.prog w = .ok (.int .i64 (n : Int)) w') ∧ OR w' b 5 1 c 16 (ucell (MdM.splice B u zs)) ∧ Kept (· = b) w w' := by
  have hz := hs.len
  rcases Nat.eq_zero_or_pos n with h0 | h0
  · refine ⟨w, fun ty => ?_, h.congr fun i hi => ?_, Kept.refl _ _⟩
    · subst h0
      exact run_copy_none w 22 22 ty 5 _ A _ _ 0 cc Tryz.underlying22 sizeU8 (by simp)
    · unfold ucell
      rw [splice_cell hl (by omega) (by omega), if_neg (by omega)]
  · obtain ⟨b', off, rfl, _, hcell⟩ := hs.at_ h0
    have hcu : cutA b u c = ⟨b, u, none⟩ := if_neg (by omega)
    rw [hcu]
    have hlen : ((List.range n).map (ucell zs)).length = n := by simp
    have hr := fun ty => run_copy_cells (P := Tryz.prog) w 22 22 ty 5 b u (16 - u) (c - u) ⟨b', off, none⟩ n cc ((List.range n).map (ucell zs)) Tryz.underlying22 sizeU8 (by rw [hlen]; simp only [Nat.min_def]; split <;> omega) (fun j v hj => by
        have hjm : j < n := by
          have := (List.getElem?_eq_some_iff.1 hj).1
          simpa using this
        rw [add_off, hcell j hjm, ← hj]
        simp [hjm, ucell]) (fun j hj => by rw [hlen] at hj; rw [h.cell (by omega)]; rfl) (fun j _ => h.frozen _) (fun v hv => by
        obtain ⟨j, hj, rfl⟩ := List.mem_map.1 hv
        rfl)
    rw [hlen] at hr
    refine ⟨_, hr, (OR.stretch ((List.range n).map (ucell zs)) u h).congr fun i hi => ?_, GsC.kept_setCells _ _ _ _⟩
    rw [hlen]
    show _ = Value.int .u8 ((MdM.splice B u zs).getD i 0)
    rw [splice_cell hl (by omega) (by omega), hz]
    by_cases e : u ≤ i ∧ i < u + n
    · rw [if_pos e, if_pos e]
      simp [List.getD_eq_getElem?_getD, show i - u < n by omega, ucell]
    · rw [if_neg e, if_neg e]
      rfl
/-- A state's box, a call's and a result's, laid at the head of a call. -/
structure Fr2 (w w0 : World) (s : Nat) (gT cT gB cB gH cH : Nat) (a : Md) (o : MdOp) (D : Option Addr) (dl dc : Nat) : Prop where
  sb : Blk w0 s 64 [.slice (some ⟨gT, 0, none⟩) a.n cT, .slice (some ⟨gB, 0, none⟩) a.n cB, .slice (some ⟨gH, 0, none⟩) a.N cH]
  ob : Blk w0 (s + 1) 30 [.int .i64 o.k, .int .i64 o.p, .int .i64 o.h, .int .i64 o.o, .int .i64 o.n, .slice D dl dc]
  rb : Blk w0 (s + 1 + 1) 27 [.int .i64 0, .int .i64 0, .int .i64 0, .slice none 0 0]
  gr : Grow w w0
  sz : s = w.heap.size
theorem fr2_new (w : World) (gT cT gB cB gH cH : Nat) (a : Md) (o : MdOp) (D : Option Addr) (dl dc : Nat) : Fr2 w (((w.alloc (.cells #[.slice (some ⟨gT, 0, none⟩) a.n cT, .slice (some ⟨gB, 0, none⟩) a.n cB, .slice (some ⟨gH, 0, none⟩) a.N cH] 64)).alloc (.cells #[.int .i64 o.k, .int .i64 o.p, .int .i64 o.h, .int .i64 o.o, .int .i64 o.n, .slice D dl dc] 30)).alloc (.cells #[.int .i64 0, .int .i64 0, .int .i64 0, .slice none 0 0] 27)) w.heap.size gT cT gB cB gH cH a o D dl dc := by
  have b1 := Blk.new w 64 [.slice (some ⟨gT, 0, none⟩) a.n cT, .slice (some ⟨gB, 0, none⟩) a.n cB, .slice (some ⟨gH, 0, none⟩) a.N cH]
  have g1 : Grow w (w.alloc (.cells #[.slice (some ⟨gT, 0, none⟩) a.n cT, .slice (some ⟨gB, 0, none⟩) a.n cB, .slice (some ⟨gH, 0, none⟩) a.N cH] 64)) := (Kept.refl _ _).alloc _
  have z1 : (w.alloc (.cells #[.slice (some ⟨gT, 0, none⟩) a.n cT, .slice (some ⟨gB, 0, none⟩) a.n cB, .slice (some ⟨gH, 0, none⟩) a.N cH] 64)).heap.size = w.heap.size + 1 := by simp
  generalize w.alloc (.cells #[.slice (some ⟨gT, 0, none⟩) a.n cT, .slice (some ⟨gB, 0, none⟩) a.n cB, .slice (some ⟨gH, 0, none⟩) a.N cH] 64) = u1 at *
  have b2 := Blk.new u1 30 [.int .i64 o.k, .int .i64 o.p, .int .i64 o.h, .int .i64 o.o, .int .i64 o.n, .slice D dl dc]
  have g2 : Grow u1 (u1.alloc (.cells #[.int .i64 o.k, .int .i64 o.p, .int .i64 o.h, .int .i64 o.o, .int .i64 o.n, .slice D dl dc] 30)) := (Kept.refl _ _).alloc _
  have z2 : (u1.alloc (.cells #[.int .i64 o.k, .int .i64 o.p, .int .i64 o.h, .int .i64 o.o, .int .i64 o.n, .slice D dl dc] 30)).heap.size = w.heap.size + 1 + 1 := by simp [z1]
  rw [z1] at b2
  generalize u1.alloc (.cells #[.int .i64 o.k, .int .i64 o.p, .int .i64 o.h, .int .i64 o.o, .int .i64 o.n, .slice D dl dc] 30) = u2 at *
  have b3 := Blk.new u2 27 [.int .i64 0, .int .i64 0, .int .i64 0, .slice none 0 0]
  have g3 : Grow u2 (u2.alloc (.cells #[.int .i64 0, .int .i64 0, .int .i64 0, .slice none 0 0] 27)) := (Kept.refl _ _).alloc _
  rw [z2] at b3
  exact ⟨(b1.grow g2).grow g3, b2.grow g3, b3, (g1.trans g2).trans g3, rfl⟩
section
variable {s : Nat} (H : Fr2 w w0 s gT cT gB cB gH cH a o D dl dc)
include H
theorem Fr2.s0 : w0.cell? ⟨s, 0, none⟩ = some (.slice (some ⟨gT, 0, none⟩) a.n cT) := H.sb.cell 0
theorem Fr2.s1 : w0.cell? ⟨s, 1, none⟩ = some (.slice (some ⟨gB, 0, none⟩) a.n cB) := H.sb.cell 1
theorem Fr2.o0 : w0.cell? ⟨s + 1, 0, none⟩ = some (.int .i64 o.k) := H.ob.cell 0
theorem Fr2.o1 : w0.cell? ⟨s + 1, 1, none⟩ = some (.int .i64 o.p) := H.ob.cell 1
theorem Fr2.o2 : w0.cell? ⟨s + 1, 2, none⟩ = some (.int .i64 o.h) := H.ob.cell 2
theorem Fr2.o3 : w0.cell? ⟨s + 1, 3, none⟩ = some (.int .i64 o.o) := H.ob.cell 3
theorem Fr2.o4 : w0.cell? ⟨s + 1, 4, none⟩ = some (.int .i64 o.n) := H.ob.cell 4
theorem Fr2.o5 : w0.cell? ⟨s + 1, 5, none⟩ = some (.slice D dl dc) := H.ob.cell 5
theorem Fr2.resK (hlt : ∀ k, G k → k < w.heap.size) (hk : Kept G w0 w1) : w1.cell? ⟨s + 1 + 1, 0, none⟩ = some (.int .i64 0) ∧ w1.cell? ⟨s + 1 + 1, 1, none⟩ = some (.int .i64 0) ∧ w1.cell? ⟨s + 1 + 1, 2, none⟩ = some (.int .i64 0) ∧ w1.cell? ⟨s + 1 + 1, 3, none⟩ = some (.slice none 0 0) ∧ ∀ j, w1.frozen? ⟨s + 1 + 1, j, none⟩ = false := by
  have hz := H.sz
  have hb := H.rb.kept hk fun x => by have := hlt _ x; omega
  exact ⟨hb.cell 0, hb.cell 1, hb.cell 2, hb.cell 3, hb.frozen⟩
theorem Fr2.fin (hlt : ∀ k, G k → k < w.heap.size) (hk : Kept G w0 w1) (hs : PAt w1 G v a') (c p h : Int) :
    Blk (put4 w1 (s + 1 + 1) (.int .i64 c) (.int .i64 p) (.int .i64 h) (.slice none 0 0)) (s + 1 + 1) 27 [.int .i64 c, .int .i64 p, .int .i64 h, .slice none 0 0] ∧
    PPost G v w (⟨c, p, h, []⟩, a') (.returned (.agg #[.int .i64 c, .int .i64 p, .int .i64 h, .slice none 0 0])) (put4 w1 (s + 1 + 1) (.int .i64 c) (.int .i64 p) (.int .i64 h) (.slice none 0 0)) := by
  have hz := H.sz
  exact fin_p hlt (H.rb.kept hk fun x => by have := hlt _ x; omega) (by omega) hs (H.gr.kept.trans hk) c p h
theorem Fr2.finD {A : Option Addr} {n cap : Nat} {zs : List Int} (hlt : ∀ k, G k → k < w.heap.size) (hk : Grow w0 w1) (hs : PAt w1 G v a') (hz : Sl w1 w1.heap.size .u8 A n zs) (hA : 0 < n → ∀ x, A = some x → w.heap.size ≤ x.block ∧ x.block ≠ s + 1 + 1) (hf : Fz w1 A n) :
    Blk (put4 w1 (s + 1 + 1) (.int .i64 0) (.int .i64 0) (.int .i64 0) (.slice A n cap)) (s + 1 + 1) 27 [.int .i64 0, .int .i64 0, .int .i64 0, .slice A n cap] ∧
    PPost G v w (⟨0, 0, 0, zs⟩, a') (.returned (.agg #[.int .i64 0, .int .i64 0, .int .i64 0, .slice A n cap])) (put4 w1 (s + 1 + 1) (.int .i64 0) (.int .i64 0) (.int .i64 0) (.slice A n cap)) := by
  have hsz := H.sz
  exact fin_d hlt (H.rb.grow hk) (by omega) hs (Grow.kept (H.gr.trans hk)) hz hA hf
end
set_option maxHeartbeats 4000000 in
theorem unpin_any (h : St0 w G gT cT gB cB gH cH qb cb q cp a) (hk : k < a.N) (hh : Int) : Calls Tryz.prog 134 #[.slice (some ⟨q k, 0, none⟩) 6 (cp k), .int .i64 hh] w (PPost G (sval gT cT gB cB gH cH a) w (a.onHand (k : Int) hh fun _ => (err 0, a.putH (k : Int).toNat hh.toNat (-1)))) := by
  have HK := Lib.hid hk
  have HS := Lib.hid h
  have hb0 := Blk.new w 27 [.int .i64 0, .int .i64 0, .int .i64 0, .slice none 0 0]
  have hg0 : Grow w (w.alloc (.cells #[.int .i64 0, .int .i64 0, .int .i64 0, .slice none 0 0] 27)) := (Kept.refl _ _).alloc _
  obtain ⟨P, hP⟩ : ∃ P, P = PPost G (sval gT cT gB cB gH cH a) w (a.onHand (k : Int) hh fun _ => (err 0, a.putH (k : Int).toNat hh.toNat (-1))) := ⟨_, rfl⟩
  have HP := Lib.hid hP
  rw [← hP]
  have HB0 := Lib.hid hb0
  have HG0 := Lib.hid hg0
  have HRS := Lib.hid fun (w1 : World) (hk : Kept G (w.alloc (.cells #[.int .i64 0, .int .i64 0, .int .i64 0, .slice none 0 0] 27)) w1) => HB0.out.kept hk fun (x : G w.heap.size) => absurd (HS.out.lt _ x) (Nat.lt_irrefl _)
  clear h hk hP hb0 hg0
  go_enter Tryz.func134, Tryz.ntmps134
  go_upto_region 1 with (fail)
  generalize w.alloc (.cells #[.int .i64 0, .int .i64 0, .int .i64 0, .slice none 0 0] 27) = w0 at *
  obtain ⟨s, hs⟩ : ∃ s, s = w.heap.size := ⟨_, rfl⟩
  rw [← hs] at HB0 HRS ⊢
  have HSZ := Lib.hid hs
  clear hs
  have HPM := Lib.hid (HS.out.pm.kept HG0.out fun _ _ x => x)
  have HPO := Lib.hid (pageOf_any (HPM.out.rb k HK.out) hh)
  rw [pg_held HK.out] at HPO
  rcases held_cases HS.out.good (k : Int) hh with he | ⟨k', j, p, e1, rfl, _, hj, he, hkj, hp, hT⟩
  · rw [onHand_bad he] at HP
    rw [he] at HPO
    clear he
    go_wp2_with (first
      | (go_at_call 172; (with_reducible refine HPO.out.mono ?_); rintro e w' ⟨rfl, rfl⟩)
      | (go_at_call 76; (with_reducible refine (code_any _ 5).mono ?_); rintro e wc ⟨rfl, hgc⟩; have HGC : Hid (Grow w0 wc) := hgc; clear hgc; have hrb := HRS.out _ (Grow.kept HGC.out); have t0 := hrb.cell 0; have t1 := hrb.cell 1; have t2 := hrb.cell 2; have t3 := hrb.cell 3; have tf := hrb.frozen; clear hrb; simp only [List.getElem?_cons_zero, List.getElem?_cons_succ] at t0 t1 t2 t3))
    rw [HP.out]
    have hfin := fin_p HS.out.lt (HRS.out _ (Grow.kept HGC.out)) (Nat.le_of_eq HSZ.out.symm) (HS.out.at_.grow (HG0.out.trans HGC.out)) (Grow.kept (HG0.out.trans HGC.out)) 5 0 0
    exact ret_res rfl rfl hfin.1 rfl hfin.2
  · have : k' = k := by omega
    subst this
    rw [onHand_good he, Int.toNat_natCast, Int.toNat_natCast] at HP
    rw [he] at HPO
    have hp1 : ((p : Int) == -1) = false := by simp <;> omega
    have r1 := hcell_get (HPM.out.rb k' HK.out) hj
    have f1 := (HPM.out.rb k' HK.out).frozen j
    rw [hkj] at r1
    have HS2 := Lib.hid (HPM.out.putH HK.out j (-1))
    have HK2 : Hid (Kept G w0 (w0.setCell ⟨q k', j, none⟩ (.int .i64 (-1)))) := (kept_set w0 (q k') j _).mono fun x _ e => by rw [e]; exact HPM.out.qG k' HK.out
    have HGN := Lib.hid (HS.out.good.putH k' j (p := -1) (.inl rfl))
    have hjz : (j : Int) < 6 := by omega
    clear he hkj hp hT hj e1
    go_upto_region 4 with (go_at_call 172; (with_reducible refine HPO.out.mono ?_); rintro e w' ⟨rfl, rfl⟩)
    clear r1 f1
    generalize w0.setCell ⟨q k', j, none⟩ (.int .i64 (-1)) = w3 at HS2 HK2 ⊢
    go_wp2_with (go_at_call 76; (with_reducible refine (code_any _ 0).mono ?_); rintro e wc ⟨rfl, hgc⟩; have HKC : Hid (Kept G w0 wc) := HK2.out.trans (Grow.kept hgc); have HGC := Lib.hid hgc; clear hgc; have hrb := HRS.out _ HKC.out; have t0 := hrb.cell 0; have t1 := hrb.cell 1; have t2 := hrb.cell 2; have t3 := hrb.cell 3; have tf := hrb.frozen; clear hrb; simp only [List.getElem?_cons_zero, List.getElem?_cons_succ] at t0 t1 t2 t3)
    rw [HP.out]
    have hfin := fin_p HS.out.lt (HRS.out _ HKC.out) (Nat.le_of_eq HSZ.out.symm) (PAt.grow ⟨HGN.out, gT, cT, gB, cB, gH, cH, qb, cb, q, cp, rfl, HS2.out⟩ HGC.out) ((Grow.kept HG0.out).trans HKC.out) 0 0 0
    exact ret_res rfl rfl hfin.1 rfl hfin.2
set_option maxHeartbeats 8000000 in
theorem read_any (h : St0 w G gT cT gB cB gH cH qb cb q cp a) (hk : k < a.N) (h63 : o.o ≤ 9223372036854775807) (hd : Sl w w.heap.size .u8 D dl o.d) : Calls Tryz.prog 132 #[sval gT cT gB cB gH cH a, .slice (some ⟨q k, 0, none⟩) 6 (cp k), .agg #[.int .i64 o.k, .int .i64 o.p, .int .i64 o.h, .int .i64 o.o, .int .i64 o.n, .slice D dl dc]] w (PPost G (sval gT cT gB cB gH cH a) w (a.onHand (k : Int) o.h (a.read o.o o.n))) := by
  have HK := Lib.hid hk
  have HS := Lib.hid h
  have HF := Lib.hid (fr2_new w gT cT gB cB gH cH a o D dl dc)
  obtain ⟨P, hP⟩ : ∃ P, P = PPost G (sval gT cT gB cB gH cH a) w (a.onHand (k : Int) o.h (a.read o.o o.n)) := ⟨_, rfl⟩
  have HP := Lib.hid hP
  have HD := Lib.hid hd
  have HDL := Lib.hid hd.len
  rw [← hP]
  clear h hk hP hd
  unfold sval
  go_enter Tryz.func132, Tryz.ntmps132
  go_upto_region 1 with (fail)
  generalize ((w.alloc (.cells #[.slice (some ⟨gT, 0, none⟩) a.n cT, .slice (some ⟨gB, 0, none⟩) a.n cB, .slice (some ⟨gH, 0, none⟩) a.N cH] 64)).alloc (.cells #[.int .i64 o.k, .int .i64 o.p, .int .i64 o.h, .int .i64 o.o, .int .i64 o.n, .slice D dl dc] 30)).alloc (.cells #[.int .i64 0, .int .i64 0, .int .i64 0, .slice none 0 0] 27) = w0 at *
  obtain ⟨s, hs⟩ : ∃ s, s = w.heap.size := ⟨_, rfl⟩
  rw [← hs] at HF ⊢
  have HSZ := Lib.hid hs
  clear hs
  have HPM := Lib.hid (HS.out.pm.kept HF.out.gr fun _ _ x => x)
  have HRE := Lib.hid fun (w' : World) (hk : Grow w0 w') => reach_any (x := o) (D := .slice D dl dc) ((HPM.out.rb k HK.out).kept hk id) h63 o.n
  rw [pg_held HK.out] at HRE
  have s1 := HF.out.s1
  have o0 := HF.out.o0
  have o1 := HF.out.o1
  have o2 := HF.out.o2
  have o3 := HF.out.o3
  have o4 := HF.out.o4
  have o5 := HF.out.o5
  clear h63
  rcases held_cases HS.out.good (k : Int) o.h with hh | ⟨k', j', p, e1', e2', hk', hj', hh, hkj', hp, hT⟩
  · rw [onHand_bad hh] at HP
    rw [show reach (a.held (k : Int) o.h) o.o o.n = (-1, 5) from if_pos hh] at HRE
    clear hh
    go_wp2_with (first
      | (go_at_call 171; (with_reducible refine (HRE.out _ (Kept.refl _ _)).mono ?_); rintro e wf ⟨rfl, hgf⟩; have HGF : Hid (Grow w0 wf) := hgf; have s1 := hgf.cellN s1 id; have o3 := hgf.cellN o3 id; have o4 := hgf.cellN o4 id; have o5 := hgf.cellN o5 id; clear hgf)
      | (go_at_call 76; (with_reducible refine (code_any _ 5).mono ?_); rintro e wc ⟨rfl, hgc⟩; have HGC : Hid (Grow w0 wc) := HGF.out.trans hgc; clear hgc; obtain ⟨t0, t1, t2, t3, tf⟩ := HF.out.resK (G := G) HS.out.lt (Grow.kept HGC.out)))
    rw [HP.out]
    have hfin := HF.out.fin HS.out.lt (Grow.kept HGC.out) (HS.out.at_.grow (HF.out.gr.trans HGC.out)) 5 0 0
    exact ret_res rfl rfl hfin.1 rfl hfin.2
  · clear e1' e2' hk' hj' hkj'
    rw [onHand_good hh] at HP
    have hpz : (p : Int) < (a.n : Int) := by omega
    have HPN := Lib.hid hp
    have HT := Lib.hid hT
    by_cases hf : fits o.o o.n
    · rw [show reach (a.held (k : Int) o.h) o.o o.n = ((p : Int), 0) from by unfold reach; rw [if_neg (by omega), if_neg (fun x => x hf), hh]] at HRE
      rw [read_good hf] at HP
      clear hh hp hT
      obtain ⟨u, hu⟩ := Int.eq_ofNat_of_zero_le hf.1
      obtain ⟨m, hm⟩ := Int.eq_ofNat_of_zero_le hf.2.1
      have hum : u + m ≤ 16 := by have := hf.2.2; omega
      rw [hu, hm, Int.toNat_natCast, Int.toNat_natCast] at HP
      rw [hu] at o3 HRE
      rw [hm] at o4 HRE
      have HUM := Lib.hid hum
      have hcb : 16 ≤ cb p := (HPM.out.br p HPN.out).le.1
      have hsl := slice_row (qb p) (cb p) u m (by omega)
      have hwr : IntKind.i64.wrap ((u : Int) + (m : Int)) = (u : Int) + (m : Int) := IntWalk.i64_in _ (by omega)
      have hl16 := HS.out.good.len p
      have HSL : Hid (∀ w', Kept (fun x => x = s + 1 + 1) w0 w' → Sl w' w'.heap.size .u8 (some (cutA (qb p) u (cb p))) m (((a.B p).drop u).take m)) := fun w' hk => sl_cut ((HPM.out.br p HPN.out).kept hk fun e => by have e : qb p = s + 1 + 1 := e; have := HS.out.lt _ (HPM.out.bG p HPN.out); have := HSZ.out; omega) hl16 hcb hum
      clear hf hu hm hum hcb hl16
      go_upto_region 4 with (go_at_call 171; (with_reducible refine (HRE.out _ (Kept.refl _ _)).mono ?_); rintro e wf ⟨rfl, hgf⟩; have HGF : Hid (Grow w0 wf) := hgf; have s1 := hgf.cellN s1 id; have o3 := hgf.cellN o3 id; have o4 := hgf.cellN o4 id; have o5 := hgf.cellN o5 id; clear hgf)
      have HNE := Lib.hid (HS.out.lt _ HPM.out.inG.2.1)
      have r2 := HPM.out.bb.cell (i := p) (by have := HPN.out; show p < a.n * 1; omega)
      unfold bsl at r2
      have r2 := HGF.out.cellN r2 id
      have hgd : Grow w0 wf.drew := HGF.out.drew
      have HGD := Lib.hid hgd
      have q0 := up_cell (F := fun x => x = s + 1 + 1) (w := wf.drew) (p := ⟨s, 1, none⟩) s1 (fun e => by have e : s = s + 1 + 1 := e; omega)
      have q1 := up_cell (F := fun x => x = s + 1 + 1) (w := wf.drew) (p := ⟨s + 1, 3, none⟩) o3 (fun e => by have e : s + 1 = s + 1 + 1 := e; omega)
      have q2 := up_cell (F := fun x => x = s + 1 + 1) (w := wf.drew) (p := ⟨s + 1, 4, none⟩) o4 (fun e => by have e : s + 1 = s + 1 + 1 := e; omega)
      have q3 := up_cell (F := fun x => x = s + 1 + 1) (w := wf.drew) (p := ⟨gB, p, none⟩) r2 (fun e => by have e : gB = s + 1 + 1 := e; have := HNE.out; have := HSZ.out; omega)
      have q4 := up_run (F := fun x => x = s + 1 + 1) (P := Tryz.prog) (w := wf.drew) fun w' _ => hsl w'
      refine wp_region_stages (Kept (fun x => x = s + 1 + 1)) (kept_refl _) (kept_trans _) [([0, 1, 2, 3, 4, 5, 6, 7, 8, 9, 10, 11, 12], 13), ([14], 15)] [] (by kernel_rfl) (by kernel_rfl) ?_
      simp only [selSt, sel, List.map_cons, List.map_nil, List.getD_cons_succ, List.getD_cons_zero]
      refine st_cons fun K1 hK1 => ?_
      repeat (go_big_quiet_step (fail))
      refine wpQuiet_nil ?_
      clear q0 q1 q2 q3 q4 hsl hwr
      have HCL := Lib.hid (bytes_clone (HSL.out _ (Grow.kept HGD.out)) (cb p - u) (by have := HUM.out; omega))
      go_wp2_with (go_at_call 80; (with_reducible refine HCL.out.mono ?_); rintro e wc ⟨⟨x, rfl, hx⟩, hgc⟩; obtain ⟨Ax, cx, rfl, hxs⟩ := os_sl hx (HSL.out _ (Grow.kept HGD.out)).len; have HX := Lib.hid hx; have HXS := Lib.hid hxs; have HGC := Lib.hid hgc; clear hx hxs hgc)
      refine norm_up (hK1 _ _ (Grow.kept HGC.out) ?_)
      clear hK1 K1 HCL
      have HGE : Hid (Grow w0 wc) := HGD.out.trans HGC.out
      obtain ⟨t0, t1, t2, t3, tf⟩ := HF.out.resK (G := G) HS.out.lt (Grow.kept HGE.out)
      refine st_cons fun K2 hK2 => ?_
      repeat (go_big_quiet_step (fail))
      refine wpQuiet_nil ?_
      go_wp2
      refine norm_up (hK2 _ _ (put4_kept _ _ _ _ _ _) (st_nil fun K3 hK3 => wpQuiet_nil (hK3 _ ?_)))
      clear hK2 K2 hK3 K3
      go_wp2
      rw [HP.out]
      have hfin := HF.out.finD (cap := cx) HS.out.lt HGE.out (HS.out.at_.grow (HF.out.gr.trans HGE.out)) HXS.out (fun hn x e => by
        have h1 : wf.drew.heap.size ≤ x.block := (PmR.os_in HX.out (k := x.block) (by rw [e]; rfl)).1
        have h2 := HF.out.rb.lt
        have h3 := HGD.out.size
        have h4 := HSZ.out
        omega) (fun hn x e j => by
        obtain ⟨gg, cg, eg, hog, _⟩ := HX.out.form hn
        injection eg with eg
        rw [eg] at e
        injection e with e
        rw [← e]
        exact hog.frozen j)
      exact ret_res rfl rfl hfin.1 rfl hfin.2
    · rw [show reach (a.held (k : Int) o.h) o.o o.n = (-1, 6) from by unfold reach; rw [if_neg (by omega), if_pos hf]] at HRE
      rw [read_bad hf] at HP
      clear hh hp hT hf
      go_wp2_with (first
        | (go_at_call 171; (with_reducible refine (HRE.out _ (Kept.refl _ _)).mono ?_); rintro e wf ⟨rfl, hgf⟩; have HGF : Hid (Grow w0 wf) := hgf; have s1 := hgf.cellN s1 id; have o3 := hgf.cellN o3 id; have o4 := hgf.cellN o4 id; have o5 := hgf.cellN o5 id; clear hgf)
        | (go_at_call 76; (with_reducible refine (code_any _ 6).mono ?_); rintro e wc ⟨rfl, hgc⟩; have HGC : Hid (Grow w0 wc) := HGF.out.trans hgc; clear hgc; obtain ⟨t0, t1, t2, t3, tf⟩ := HF.out.resK (G := G) HS.out.lt (Grow.kept HGC.out)))
      rw [HP.out]
      have hfin := HF.out.fin HS.out.lt (Grow.kept HGC.out) (HS.out.at_.grow (HF.out.gr.trans HGC.out)) 6 0 0
      exact ret_res rfl rfl hfin.1 rfl hfin.2
set_option maxHeartbeats 8000000 in
theorem write_any (h : St0 w G gT cT gB cB gH cH qb cb q cp a) (hk : k < a.N) (h63 : o.o ≤ 9223372036854775807) (hd : Sl w w.heap.size .u8 D dl o.d) (hby : Bytes o.d) : Calls Tryz.prog 133 #[sval gT cT gB cB gH cH a, .slice (some ⟨q k, 0, none⟩) 6 (cp k), .agg #[.int .i64 o.k, .int .i64 o.p, .int .i64 o.h, .int .i64 o.o, .int .i64 o.n, .slice D dl dc]] w (PPost G (sval gT cT gB cB gH cH a) w (a.onHand (k : Int) o.h (a.write o.o o.d))) := by
  have HK := Lib.hid hk
  have HS := Lib.hid h
  have HF := Lib.hid (fr2_new w gT cT gB cB gH cH a o D dl dc)
  obtain ⟨P, hP⟩ : ∃ P, P = PPost G (sval gT cT gB cB gH cH a) w (a.onHand (k : Int) o.h (a.write o.o o.d)) := ⟨_, rfl⟩
  have HP := Lib.hid hP
  have HD := Lib.hid hd
  have HDL := Lib.hid hd.len
  rw [← hP]
  have HBY := Lib.hid hby
  clear h hk hP hd hby
  unfold sval
  go_enter Tryz.func133, Tryz.ntmps133
  go_upto_region 1 with (fail)
  generalize ((w.alloc (.cells #[.slice (some ⟨gT, 0, none⟩) a.n cT, .slice (some ⟨gB, 0, none⟩) a.n cB, .slice (some ⟨gH, 0, none⟩) a.N cH] 64)).alloc (.cells #[.int .i64 o.k, .int .i64 o.p, .int .i64 o.h, .int .i64 o.o, .int .i64 o.n, .slice D dl dc] 30)).alloc (.cells #[.int .i64 0, .int .i64 0, .int .i64 0, .slice none 0 0] 27) = w0 at *
  obtain ⟨s, hs⟩ : ∃ s, s = w.heap.size := ⟨_, rfl⟩
  rw [← hs] at HF ⊢
  have HSZ := Lib.hid hs
  clear hs
  have HPM := Lib.hid (HS.out.pm.kept HF.out.gr fun _ _ x => x)
  have HRE := Lib.hid fun (w' : World) (hk : Grow w0 w') => reach_any (x := o) (D := .slice D dl dc) ((HPM.out.rb k HK.out).kept hk id) h63 (dl : Int)
  rw [pg_held HK.out] at HRE
  have s1 := HF.out.s1
  have o0 := HF.out.o0
  have o1 := HF.out.o1
  have o2 := HF.out.o2
  have o3 := HF.out.o3
  have o4 := HF.out.o4
  have o5 := HF.out.o5
  clear h63
  rcases held_cases HS.out.good (k : Int) o.h with hh | ⟨k', j', p, e1', e2', hk', hj', hh, hkj', hp, hT⟩
  · rw [onHand_bad hh] at HP
    rw [show reach (a.held (k : Int) o.h) o.o (dl : Int) = (-1, 5) from if_pos hh] at HRE
    clear hh
    go_wp2_with (first
      | (go_at_call 171; (with_reducible refine (HRE.out _ (Kept.refl _ _)).mono ?_); rintro e wf ⟨rfl, hgf⟩; have HGF : Hid (Grow w0 wf) := hgf; have s1 := hgf.cellN s1 id; have o3 := hgf.cellN o3 id; have o4 := hgf.cellN o4 id; have o5 := hgf.cellN o5 id; clear hgf)
      | (go_at_call 76; (with_reducible refine (code_any _ 5).mono ?_); rintro e wc ⟨rfl, hgc⟩; have HGC : Hid (Grow w0 wc) := HGF.out.trans hgc; clear hgc; obtain ⟨t0, t1, t2, t3, tf⟩ := HF.out.resK (G := G) HS.out.lt (Grow.kept HGC.out)))
    rw [HP.out]
    have hfin := HF.out.fin HS.out.lt (Grow.kept HGC.out) (HS.out.at_.grow (HF.out.gr.trans HGC.out)) 5 0 0
    exact ret_res rfl rfl hfin.1 rfl hfin.2
  · clear e1' e2' hk' hj' hkj'
    rw [onHand_good hh] at HP
    have hpz : (p : Int) < (a.n : Int) := by omega
    have HPN := Lib.hid hp
    have HT := Lib.hid hT
    by_cases hf : fits o.o (dl : Int)
    · rw [show reach (a.held (k : Int) o.h) o.o (dl : Int) = ((p : Int), 0) from by unfold reach; rw [if_neg (by omega), if_neg (fun x => x hf), hh]] at HRE
      rw [write_good (by rw [HDL.out]; exact hf)] at HP
      clear hh hp hT
      obtain ⟨u, hu⟩ := Int.eq_ofNat_of_zero_le hf.1
      have hum : u + dl ≤ 16 := by have := hf.2.2; omega
      rw [hu, Int.toNat_natCast] at HP
      rw [hu] at o3 HRE
      have HUM := Lib.hid hum
      have hcb : 16 ≤ cb p := (HPM.out.br p HPN.out).le.1
      have hsl := slice_from (qb p) (cb p) u (by omega)
      have hl16 := HS.out.good.len p
      have HGN := Lib.hid (HS.out.good.putB (q := p) (b := MdM.splice (a.B p) u o.d) HT.out (splice_len (b := a.B p) (d := o.d) (o := u) hl16 (by rw [HDL.out]; exact hum)) (splice_bytes (HS.out.good.byt p) HBY.out))
      have HCP := Lib.hid fun (w' : World) (hk : Grow w0 w') => copy_body (A := D) (n := dl) (u := u) ((HPM.out.br p HPN.out).kept hk id) hcb hl16 ((Blk.Sl.kept HD.out (HF.out.gr.trans hk) (Nat.le_refl _) fun _ _ x => x).more (HF.out.gr.trans hk).size) (by omega) dc
      clear hf hu hum hcb hl16
      go_upto_region 4 with (go_at_call 171; (with_reducible refine (HRE.out _ (Kept.refl _ _)).mono ?_); rintro e wf ⟨rfl, hgf⟩; have HGF : Hid (Grow w0 wf) := hgf; have s1 := hgf.cellN s1 id; have o3 := hgf.cellN o3 id; have o4 := hgf.cellN o4 id; have o5 := hgf.cellN o5 id; clear hgf)
      have r2 := HPM.out.bb.cell (i := p) (by have := HPN.out; show p < a.n * 1; omega)
      unfold bsl at r2
      have r2 := HGF.out.cellN r2 id
      have hgd : Grow w0 wf.drew := HGF.out.drew
      have HGD := Lib.hid hgd
      have HNE : Hid (qb p < s ∧ gB ≠ qb p) := ⟨by rw [HSZ.out]; exact HS.out.lt _ (HPM.out.bG p HPN.out), fun e => (HPM.out.nb p HPN.out).2.1 e.symm⟩
      have q0 := up_cell (F := fun x => x = qb p) (w := wf.drew) (p := ⟨s, 1, none⟩) s1 (fun e => by have e : s = qb p := e; have := HNE.out.1; omega)
      have q1 := up_cell (F := fun x => x = qb p) (w := wf.drew) (p := ⟨s + 1, 3, none⟩) o3 (fun e => by have e : s + 1 = qb p := e; have := HNE.out.1; omega)
      have q2 := up_cell (F := fun x => x = qb p) (w := wf.drew) (p := ⟨s + 1, 5, none⟩) o5 (fun e => by have e : s + 1 = qb p := e; have := HNE.out.1; omega)
      have q3 := up_cell (F := fun x => x = qb p) (w := wf.drew) (p := ⟨gB, p, none⟩) r2 (fun e => HNE.out.2 e)
      have q4 := up_run (F := fun x => x = qb p) (P := Tryz.prog) (w := wf.drew) fun w' _ => hsl w'
      obtain ⟨w4, hr4, hb4, hk4⟩ := HCP.out _ HGD.out
      have HPM1 := Lib.hid (HPM.out.kept HGD.out fun _ _ x => x)
      have HS4 := Lib.hid (HPM1.out.body HPN.out hk4 hb4)
      have HK4 : Hid (Kept G w0 w4) := (Grow.kept HGD.out).trans (hk4.mono fun x _ e => by rw [e]; exact HPM1.out.bG p HPN.out)
      have HK5 := Lib.hid hk4
      clear hb4 hk4
      refine wp_region_stages (Kept (fun x => x = qb p)) (kept_refl _) (kept_trans _) [([0, 1, 2, 3, 4, 5, 6, 7, 8, 9], 10)] [] (by kernel_rfl) (by kernel_rfl) ?_
      simp only [selSt, sel, List.map_cons, List.map_nil, List.getD_cons_succ, List.getD_cons_zero]
      refine st_cons fun K hK => ?_
      repeat (go_big_quiet_step (fail))
      refine wpQuiet_nil ?_
      clear q0 q1 q2 q3 q4 hsl
      go_wp2
      refine norm_up (hK _ _ HK5.out (st_nil fun K3 hK3 => wpQuiet_nil (hK3 _ ?_)))
      clear hK K hK3 K3 hr4
      go_wp2_with (go_at_call 76; (with_reducible refine (code_any _ 0).mono ?_); rintro e wc ⟨rfl, hgc⟩; have HKC : Hid (Kept G w0 wc) := HK4.out.trans (Grow.kept hgc); have HGC := Lib.hid hgc; clear hgc; obtain ⟨t0, t1, t2, t3, tf⟩ := HF.out.resK (G := G) HS.out.lt HKC.out)
      rw [HP.out]
      have hfin := HF.out.fin HS.out.lt HKC.out (PAt.grow ⟨HGN.out, gT, cT, gB, cB, gH, cH, qb, cb, q, cp, rfl, HS4.out⟩ HGC.out) 0 0 0
      exact ret_res rfl rfl hfin.1 rfl hfin.2
    · rw [show reach (a.held (k : Int) o.h) o.o (dl : Int) = (-1, 6) from by unfold reach; rw [if_neg (by omega), if_pos hf]] at HRE
      rw [write_bad (by rw [HDL.out]; exact hf)] at HP
      clear hh hp hT hf
      go_wp2_with (first
        | (go_at_call 171; (with_reducible refine (HRE.out _ (Kept.refl _ _)).mono ?_); rintro e wf ⟨rfl, hgf⟩; have HGF : Hid (Grow w0 wf) := hgf; have s1 := hgf.cellN s1 id; have o3 := hgf.cellN o3 id; have o4 := hgf.cellN o4 id; have o5 := hgf.cellN o5 id; clear hgf)
        | (go_at_call 76; (with_reducible refine (code_any _ 6).mono ?_); rintro e wc ⟨rfl, hgc⟩; have HGC : Hid (Grow w0 wc) := HGF.out.trans hgc; clear hgc; obtain ⟨t0, t1, t2, t3, tf⟩ := HF.out.resK (G := G) HS.out.lt (Grow.kept HGC.out)))
      rw [HP.out]
      have hfin := HF.out.fin HS.out.lt (Grow.kept HGC.out) (HS.out.at_.grow (HF.out.gr.trans HGC.out)) 6 0 0
      exact ret_res rfl rfl hfin.1 rfl hfin.2
end
end Go.Proofs.YtbnkpnllgoghnaaGreat.PmV

namespace Go.Proofs.YtbnkpnllgoghnaaGreat.PmW
open Go.ChangeShapes Go.WideShapes Go.ChangeAt Go.RowKit
open Go.Proofs.YtbnkpnllgoghnaaGreat.Mem Go.Proofs.YtbnkpnllgoghnaaGreat.Blk Go.Proofs.YtbnkpnllgoghnaaGreat.Cells Go.Proofs.YtbnkpnllgoghnaaGreat.Orow Go.Proofs.YtbnkpnllgoghnaaGreat.GrC Go.Proofs.YtbnkpnllgoghnaaGreat.MdM Go.Proofs.YtbnkpnllgoghnaaGreat.MdC Go.Proofs.YtbnkpnllgoghnaaGreat.MdR Go.Proofs.YtbnkpnllgoghnaaGreat.MdD Go.Proofs.YtbnkpnllgoghnaaGreat.PmC Go.Proofs.YtbnkpnllgoghnaaGreat.PmI Go.Proofs.YtbnkpnllgoghnaaGreat.PmM Go.Proofs.YtbnkpnllgoghnaaGreat.PmP Go.Proofs.YtbnkpnllgoghnaaGreat.PmT Go.Proofs.YtbnkpnllgoghnaaGreat.PmU Go.Proofs.YtbnkpnllgoghnaaGreat.PmV Go.Proofs.YtbnkpnllgoghnaaGreat.Stages
section
variable {w w0 w1 : World} {G F X : Nat → Prop} {v : Value} {gT cT gB cB gH cH r s : Nat} {qb cb q cp : Nat → Nat} {a a' : Md} {k : Nat} {o : MdOp} {D A : Option Addr} {dl dc n cap : Nat} {zs : List Int}
theorem run_1 (hk : k < a.N) (e : o.k = 1) : a.run (k : Int) o = a.new k := by
  unfold Md.run
  rw [if_neg (by omega), if_pos e]
  rw [Int.toNat_natCast]
theorem run_2 (hk : k < a.N) (e : o.k = 2) : a.run (k : Int) o = a.onPage o.p (a.fetch k) := by
  unfold Md.run
  rw [if_neg (by omega), if_neg (by omega), if_pos e]
  rw [Int.toNat_natCast]
theorem run_3 (hk : k < a.N) (e : o.k = 3) : a.run (k : Int) o = a.onHand (k : Int) o.h (a.read o.o o.n) := by
  unfold Md.run
  rw [if_neg (by omega), if_neg (by omega), if_neg (by omega), if_pos e]
theorem run_4 (hk : k < a.N) (e : o.k = 4) : a.run (k : Int) o = a.onHand (k : Int) o.h (a.write o.o o.d) := by
  unfold Md.run
  rw [if_neg (by omega), if_neg (by omega), if_neg (by omega), if_neg (by omega), if_pos e]
theorem run_5 (hk : k < a.N) (e : o.k = 5) : a.run (k : Int) o = a.onHand (k : Int) o.h fun _ => (err 0, a.putH (k : Int).toNat o.h.toNat (-1)) := by
  unfold Md.run
  rw [if_neg (by omega), if_neg (by omega), if_neg (by omega), if_neg (by omega), if_neg (by omega), if_pos e]
theorem run_6 (hk : k < a.N) (e : o.k = 6) : a.run (k : Int) o = a.onPage o.p fun _ => (err 0, a) := by
  unfold Md.run
  rw [if_neg (by omega), if_neg (by omega), if_neg (by omega), if_neg (by omega), if_neg (by omega), if_neg (by omega), if_pos e]
theorem run_7 (hk : k < a.N) (e : o.k = 7) : a.run (k : Int) o = (err 0, a) := by
  unfold Md.run
  rw [if_neg (by omega), if_neg (by omega), if_neg (by omega), if_neg (by omega), if_neg (by omega), if_neg (by omega), if_neg (by omega), if_pos e]
theorem run_8 (hk : k < a.N) (e : o.k = 8) : a.run (k : Int) o = a.onPage o.p a.del := by
  unfold Md.run
  rw [if_neg (by omega), if_neg (by omega), if_neg (by omega), if_neg (by omega), if_neg (by omega), if_neg (by omega), if_neg (by omega), if_neg (by omega)]
theorem run_none {c : Int} (h1 : ¬ o.k = 1) (h2 : ¬ o.k = 2) (h3 : ¬ o.k = 3) (h4 : ¬ o.k = 4) (h5 : ¬ o.k = 5) (h6 : ¬ o.k = 6) (h7 : ¬ o.k = 7) (h8 : ¬ o.k = 8) : a.run c o = (err 1, a) := by
  unfold Md.run
  rw [if_pos (by omega)]
theorem run_out {c : Int} (h : ¬ (0 ≤ c ∧ c < (a.N : Int))) : a.run c o = (err 1, a) := by
  unfold Md.run
  rw [if_pos (.inl h)]
theorem fin_r {x y z d : Value} (hlt : ∀ k, G k → k < w.heap.size) (hb : Blk w1 r 27 [x, y, z, d]) (hr : w.heap.size ≤ r) (hs : PAt w1 G v a') (hk : Kept G w w1) (hz : Sl w1 w1.heap.size .u8 A n zs) (hA : 0 < n → ∀ x, A = some x → w.heap.size ≤ x.block ∧ x.block ≠ r) (hf : Fz w1 A n) (c p h : Int) :
    Blk (put4 w1 r (.int .i64 c) (.int .i64 p) (.int .i64 h) (.slice A n cap)) r 27 [.int .i64 c, .int .i64 p, .int .i64 h, .slice A n cap] ∧
    PPost G v w (⟨c, p, h, zs⟩, a') (.returned (.agg #[.int .i64 c, .int .i64 p, .int .i64 h, .slice A n cap])) (put4 w1 r (.int .i64 c) (.int .i64 p) (.int .i64 h) (.slice A n cap)) := by
  refine ⟨put4_blk hb, ⟨_, rfl, A, n, cap, rfl, ⟨hz.1, fun hn => ?_⟩, fun hn x e => (hA hn x e).1, hf.kept (put4_kept w1 r _ _ _ _) fun hn x e => ⟨sl_lt hz hn e, (hA hn x e).2⟩⟩, hs.kept (put4_kept w1 r _ _ _ _) fun k hG e => ?_, hk.then (put4_kept w1 r _ _ _ _) fun k hk e => ?_⟩
  · obtain ⟨b, off, e, hb, hc⟩ := hz.2 hn
    exact ⟨b, off, e, Nat.lt_of_lt_of_le hb (put4_kept w1 r _ _ _ _).size, fun j hj => (put4_kept w1 r _ _ _ _).cellN (hc j hj) (hA hn _ e).2⟩
  · have := hlt k hG
    have e : k = r := e
    omega
  · have e : k = r := e
    omega
theorem fr2_finR {R : Re} (H : Fr2 w w0 s gT cT gB cB gH cH a o D dl dc) (hlt : ∀ k, G k → k < w.heap.size) (hk : Kept G w0 w1) (hs : PAt w1 G v a') (hz : Sl w1 w1.heap.size .u8 A n R.d) (hA : 0 < n → ∀ x, A = some x → w0.heap.size ≤ x.block) (hf : Fz w1 A n) :
    Blk (put4 w1 (s + 1 + 1) (.int .i64 R.c) (.int .i64 R.p) (.int .i64 R.h) (.slice A n cap)) (s + 1 + 1) 27 [.int .i64 R.c, .int .i64 R.p, .int .i64 R.h, .slice A n cap] ∧
    PPost G v w (R, a') (.returned (.agg #[.int .i64 R.c, .int .i64 R.p, .int .i64 R.h, .slice A n cap])) (put4 w1 (s + 1 + 1) (.int .i64 R.c) (.int .i64 R.p) (.int .i64 R.h) (.slice A n cap)) := by
  have hsz := H.sz
  have hl := H.rb.lt
  exact fin_r hlt (H.rb.kept hk fun x => by have := hlt _ x; omega) (by omega) hs (H.gr.kept.trans hk) hz (fun hn x e => by have := hA hn x e; omega) hf R.c R.p R.h
set_option maxHeartbeats 8000000 in
theorem step_any (h : St0 w G gT cT gB cB gH cH qb cb q cp a) (hk : k < a.N) (h63 : o.o ≤ 9223372036854775807) (hd : Sl w w.heap.size .u8 D dl o.d) (hby : Bytes o.d) : Calls Tryz.prog 77 #[sval gT cT gB cB gH cH a, .slice (some ⟨q k, 0, none⟩) 6 (cp k), .agg #[.int .i64 o.k, .int .i64 o.p, .int .i64 o.h, .int .i64 o.o, .int .i64 o.n, .slice D dl dc]] w (PPost G (sval gT cT gB cB gH cH a) w (a.run (k : Int) o)) := by
  have HK := Lib.hid hk
  have HS := Lib.hid h
  have H63 := Lib.hid h63
  have HBY := Lib.hid hby
  have HF := Lib.hid (fr2_new w gT cT gB cB gH cH a o D dl dc)
  obtain ⟨P, hP⟩ : ∃ P, P = PPost G (sval gT cT gB cB gH cH a) w (a.run (k : Int) o) := ⟨_, rfl⟩
  have HP := Lib.hid hP
  have HD := Lib.hid hd
  rw [← hP]
  clear h hk hP hd h63 hby
  unfold sval
  go_enter Tryz.func77, Tryz.ntmps77
  go_upto_region 1 with (fail)
  generalize ((w.alloc (.cells #[.slice (some ⟨gT, 0, none⟩) a.n cT, .slice (some ⟨gB, 0, none⟩) a.n cB, .slice (some ⟨gH, 0, none⟩) a.N cH] 64)).alloc (.cells #[.int .i64 o.k, .int .i64 o.p, .int .i64 o.h, .int .i64 o.o, .int .i64 o.n, .slice D dl dc] 30)).alloc (.cells #[.int .i64 0, .int .i64 0, .int .i64 0, .slice none 0 0] 27) = w0 at *
  obtain ⟨s, hs⟩ : ∃ s, s = w.heap.size := ⟨_, rfl⟩
  rw [← hs] at HF ⊢
  clear hs
  have HPM := Lib.hid (HS.out.pm.kept HF.out.gr fun _ _ x => x)
  have s0 := (HF.out.sb).cell 0
  have s1 := (HF.out.sb).cell 1
  have s2 := (HF.out.sb).cell 2
  simp only [List.getElem?_cons_zero, List.getElem?_cons_succ] at s0 s1 s2
  have o1 := HF.out.o1
  have o2 := HF.out.o2
  have o3 := HF.out.o3
  have o4 := HF.out.o4
  have o5 := HF.out.o5
  by_cases hk1 : o.k = 1
  · have o0 := HF.out.o0
    rw [hk1] at o0
    rw [run_1 HK.out hk1] at HP
    clear hk1
    go_wp2_with (go_at_call 130; (with_reducible refine (create_any (k := k) ⟨HS.out.good, HPM.out, fun x hx => Nat.lt_of_lt_of_le (HS.out.lt x hx) HF.out.gr.size⟩ HK.out).mono ?_); rintro e wf ⟨⟨rv, rfl, A, n, cap, rfl, hz, hA, hfz⟩, hpa, hkf⟩; have HZ := Lib.hid hz; have HA := Lib.hid hA; have HFZ := Lib.hid hfz; have HPA := Lib.hid hpa; have HKF := Lib.hid hkf; clear hz hA hfz hpa hkf; obtain ⟨t0, t1, t2, t3, tf⟩ := HF.out.resK (G := G) HS.out.lt HKF.out)
    rw [HP.out]
    have hfin := fr2_finR (cap := cap) HF.out HS.out.lt HKF.out HPA.out HZ.out (fun hn x e => HA.out hn x e) HFZ.out
    exact ret_res rfl rfl hfin.1 rfl hfin.2
  by_cases hk2 : o.k = 2
  · have o0 := HF.out.o0
    rw [hk2] at o0
    rw [run_2 HK.out hk2] at HP
    clear hk2
    go_wp2_with (go_at_call 131; (with_reducible refine (fetch_any (k := k) ⟨HS.out.good, HPM.out, fun x hx => Nat.lt_of_lt_of_le (HS.out.lt x hx) HF.out.gr.size⟩ HK.out o.p).mono ?_); rintro e wf ⟨⟨rv, rfl, A, n, cap, rfl, hz, hA, hfz⟩, hpa, hkf⟩; have HZ := Lib.hid hz; have HA := Lib.hid hA; have HFZ := Lib.hid hfz; have HPA := Lib.hid hpa; have HKF := Lib.hid hkf; clear hz hA hfz hpa hkf; obtain ⟨t0, t1, t2, t3, tf⟩ := HF.out.resK (G := G) HS.out.lt HKF.out)
    rw [HP.out]
    have hfin := fr2_finR (cap := cap) HF.out HS.out.lt HKF.out HPA.out HZ.out (fun hn x e => HA.out hn x e) HFZ.out
    exact ret_res rfl rfl hfin.1 rfl hfin.2
  by_cases hk3 : o.k = 3
  · have o0 := HF.out.o0
    rw [hk3] at o0
    rw [run_3 HK.out hk3] at HP
    clear hk3
    go_wp2_with (go_at_call 132; (with_reducible refine (read_any (k := k) (o := ⟨3, o.p, o.h, o.o, o.n, o.d⟩) ⟨HS.out.good, HPM.out, fun x hx => Nat.lt_of_lt_of_le (HS.out.lt x hx) HF.out.gr.size⟩ HK.out H63.out ((Blk.Sl.kept HD.out HF.out.gr (Nat.le_refl _) fun _ _ x => x).more HF.out.gr.size)).mono ?_); rintro e wf ⟨⟨rv, rfl, A, n, cap, rfl, hz, hA, hfz⟩, hpa, hkf⟩; have HZ := Lib.hid hz; have HA := Lib.hid hA; have HFZ := Lib.hid hfz; have HPA := Lib.hid hpa; have HKF := Lib.hid hkf; clear hz hA hfz hpa hkf; obtain ⟨t0, t1, t2, t3, tf⟩ := HF.out.resK (G := G) HS.out.lt HKF.out)
    rw [HP.out]
    have hfin := fr2_finR (cap := cap) HF.out HS.out.lt HKF.out HPA.out HZ.out (fun hn x e => HA.out hn x e) HFZ.out
    exact ret_res rfl rfl hfin.1 rfl hfin.2
  by_cases hk4 : o.k = 4
  · have o0 := HF.out.o0
    rw [hk4] at o0
    rw [run_4 HK.out hk4] at HP
    clear hk4
    go_wp2_with (go_at_call 133; (with_reducible refine (write_any (k := k) (o := ⟨4, o.p, o.h, o.o, o.n, o.d⟩) ⟨HS.out.good, HPM.out, fun x hx => Nat.lt_of_lt_of_le (HS.out.lt x hx) HF.out.gr.size⟩ HK.out H63.out ((Blk.Sl.kept HD.out HF.out.gr (Nat.le_refl _) fun _ _ x => x).more HF.out.gr.size) HBY.out).mono ?_); rintro e wf ⟨⟨rv, rfl, A, n, cap, rfl, hz, hA, hfz⟩, hpa, hkf⟩; have HZ := Lib.hid hz; have HA := Lib.hid hA; have HFZ := Lib.hid hfz; have HPA := Lib.hid hpa; have HKF := Lib.hid hkf; clear hz hA hfz hpa hkf; obtain ⟨t0, t1, t2, t3, tf⟩ := HF.out.resK (G := G) HS.out.lt HKF.out)
    rw [HP.out]
    have hfin := fr2_finR (cap := cap) HF.out HS.out.lt HKF.out HPA.out HZ.out (fun hn x e => HA.out hn x e) HFZ.out
    exact ret_res rfl rfl hfin.1 rfl hfin.2
  by_cases hk5 : o.k = 5
  · have o0 := HF.out.o0
    rw [hk5] at o0
    rw [run_5 HK.out hk5] at HP
    clear hk5
    go_wp2_with (go_at_call 134; (with_reducible refine (unpin_any (k := k) (gT := gT) (cT := cT) (gB := gB) (cB := cB) (gH := gH) (cH := cH) (qb := qb) (cb := cb) ⟨HS.out.good, HPM.out, fun x hx => Nat.lt_of_lt_of_le (HS.out.lt x hx) HF.out.gr.size⟩ HK.out o.h).mono ?_); rintro e wf ⟨⟨rv, rfl, A, n, cap, rfl, hz, hA, hfz⟩, hpa, hkf⟩; have HZ := Lib.hid hz; have HA := Lib.hid hA; have HFZ := Lib.hid hfz; have HPA := Lib.hid hpa; have HKF := Lib.hid hkf; clear hz hA hfz hpa hkf; obtain ⟨t0, t1, t2, t3, tf⟩ := HF.out.resK (G := G) HS.out.lt HKF.out)
    rw [HP.out]
    have hfin := fr2_finR (cap := cap) HF.out HS.out.lt HKF.out HPA.out HZ.out (fun hn x e => HA.out hn x e) HFZ.out
    exact ret_res rfl rfl hfin.1 rfl hfin.2
  by_cases hk6 : o.k = 6
  · have o0 := HF.out.o0
    rw [hk6] at o0
    rw [run_6 HK.out hk6] at HP
    have HFI := Lib.hid (find_any (w := w0) (n := a.n) (T := a.T) (AB := some ⟨gB, 0, none⟩) (nB := a.n) (cB := cB) (AH := some ⟨gH, 0, none⟩) (nH := a.N) (cH := cH) (cT := cT) ((HPM.out.parts HS.out.good).T) o.p)
    clear hk6
    have hpost : a.onPage o.p (fun _ => (err 0, a)) = (err (codeOf a.n a.T o.p), a) := by
      rcases code_cases a.n a.T o.p with hc | hc
      · obtain ⟨pn, e, hpn, hT⟩ := code_zero hc
        rw [hc, e, onPage_good hpn hT]
      · exact onPage_bad hc
    rw [hpost] at HP
    clear hpost
    generalize codeOf a.n a.T o.p = cz at *
    go_wp2_with (first
      | (go_at_call 135; (with_reducible refine HFI.out.mono ?_); rintro e wf ⟨rfl, hgf⟩; have HGF : Hid (Grow w0 wf) := hgf; clear hgf)
      | (go_at_call 76; (with_reducible refine (code_any _ cz).mono ?_); rintro e wc ⟨rfl, hgc⟩; have HGC : Hid (Grow w0 wc) := HGF.out.trans hgc; clear hgc; obtain ⟨t0, t1, t2, t3, tf⟩ := HF.out.resK (G := G) HS.out.lt (Grow.kept HGC.out)))
    rw [HP.out]
    have hfin := HF.out.fin HS.out.lt (Grow.kept HGC.out) (HS.out.at_.grow (HF.out.gr.trans HGC.out)) cz 0 0
    exact ret_res rfl rfl hfin.1 rfl hfin.2
  by_cases hk7 : o.k = 7
  · have o0 := HF.out.o0
    rw [hk7] at o0
    rw [run_7 HK.out hk7] at HP
    clear hk7
    go_wp2_with (go_at_call 76; (with_reducible refine (code_any _ 0).mono ?_); rintro e wc ⟨rfl, hgc⟩; have HGC : Hid (Grow w0 wc) := hgc; clear hgc; obtain ⟨t0, t1, t2, t3, tf⟩ := HF.out.resK (G := G) HS.out.lt (Grow.kept HGC.out))
    rw [HP.out]
    have hfin := HF.out.fin HS.out.lt (Grow.kept HGC.out) (HS.out.at_.grow (HF.out.gr.trans HGC.out)) 0 0 0
    exact ret_res rfl rfl hfin.1 rfl hfin.2
  by_cases hk8 : o.k = 8
  · have o0 := HF.out.o0
    rw [hk8] at o0
    rw [run_8 HK.out hk8] at HP
    clear hk8
    go_wp2_with (go_at_call 136; (with_reducible refine (remove_any ⟨HS.out.good, HPM.out, fun x hx => Nat.lt_of_lt_of_le (HS.out.lt x hx) HF.out.gr.size⟩ o.p).mono ?_); rintro e wf ⟨⟨rv, rfl, A, n, cap, rfl, hz, hA, hfz⟩, hpa, hkf⟩; have HZ := Lib.hid hz; have HA := Lib.hid hA; have HFZ := Lib.hid hfz; have HPA := Lib.hid hpa; have HKF := Lib.hid hkf; clear hz hA hfz hpa hkf; obtain ⟨t0, t1, t2, t3, tf⟩ := HF.out.resK (G := G) HS.out.lt HKF.out)
    rw [HP.out]
    have hfin := fr2_finR (cap := cap) HF.out HS.out.lt HKF.out HPA.out HZ.out (fun hn x e => HA.out hn x e) HFZ.out
    exact ret_res rfl rfl hfin.1 rfl hfin.2
  have o0 := HF.out.o0
  rw [run_none hk1 hk2 hk3 hk4 hk5 hk6 hk7 hk8] at HP
  have n1 : (o.k == 1) = false := by simpa using hk1
  have n2 : (o.k == 2) = false := by simpa using hk2
  have n3 : (o.k == 3) = false := by simpa using hk3
  have n4 : (o.k == 4) = false := by simpa using hk4
  have n5 : (o.k == 5) = false := by simpa using hk5
  have n6 : (o.k == 6) = false := by simpa using hk6
  have n7 : (o.k == 7) = false := by simpa using hk7
  have n8 : (o.k == 8) = false := by simpa using hk8
  generalize o.k = kk at *
  clear hk1 hk2 hk3 hk4 hk5 hk6 hk7 hk8
  go_wp2_with (go_at_call 76; (with_reducible refine (code_any _ 1).mono ?_); rintro e wc ⟨rfl, hgc⟩; have HGC : Hid (Grow w0 wc) := hgc; clear hgc; obtain ⟨t0, t1, t2, t3, tf⟩ := HF.out.resK (G := G) HS.out.lt (Grow.kept HGC.out))
  rw [HP.out]
  have hfin := HF.out.fin HS.out.lt (Grow.kept HGC.out) (HS.out.at_.grow (HF.out.gr.trans HGC.out)) 1 0 0
  exact ret_res rfl rfl hfin.1 rfl hfin.2
end
end Go.Proofs.YtbnkpnllgoghnaaGreat.PmW

namespace Go.Proofs.YtbnkpnllgoghnaaGreat.PmS
open Go.ChangeShapes Go.WideShapes Go.ChangeAt Go.RowKit
open Go.Proofs.YtbnkpnllgoghnaaGreat.Mem Go.Proofs.YtbnkpnllgoghnaaGreat.Blk Go.Proofs.YtbnkpnllgoghnaaGreat.Cells Go.Proofs.YtbnkpnllgoghnaaGreat.Orow Go.Proofs.YtbnkpnllgoghnaaGreat.MdM Go.Proofs.YtbnkpnllgoghnaaGreat.MdC Go.Proofs.YtbnkpnllgoghnaaGreat.PmC Go.Proofs.YtbnkpnllgoghnaaGreat.PmI Go.Proofs.YtbnkpnllgoghnaaGreat.PmM Go.Proofs.YtbnkpnllgoghnaaGreat.Stages
/-- The numbers of a string's bytes. -/
def strNums (s : ByteArray) : List Int := s.data.toList.map fun b => (b.toNat : Int)
theorem strNums_ofNums {zs : List Int} (h : Bytes zs) : strNums (strOfNums zs) = zs := by
  unfold strNums
  rw [strOfNums_data, List.map_map]
  conv => rhs; rw [← List.map_id zs]
  refine List.map_congr_left fun c hc => ?_
  obtain ⟨h1, h2⟩ := h c hc
  simp
  omega
theorem str_inj {a b : List Int} (ha : Bytes a) (hb : Bytes b) (h : strOfNums a = strOfNums b) : a = b := by
  have := congrArg strNums h
  rwa [strNums_ofNums ha, strNums_ofNums hb] at this
theorem str_eq {a b : List Int} (ha : Bytes a) (hb : Bytes b) : ((strOfNums a).toList == (strOfNums b).toList) = decide (a = b) := by
  rw [Bool.eq_iff_iff, beq_iff_eq, decide_eq_true_iff]
  constructor
  · intro h
    refine str_inj ha hb ?_
    rw [ByteArray.toList_eq, ByteArray.toList_eq] at h
    apply ByteArray.ext
    exact Array.ext' h
  · rintro rfl; rfl
section
variable {w : World} {A A' : Option Addr}
theorem equal_bytes {n m c c' : Nat} {zs ys : List Int} (hs : Sl w w.heap.size .u8 A n zs) (hs' : Sl w w.heap.size .u8 A' m ys) (hz : Bytes zs) (hy : Bytes ys) : Calls Tryz.prog 78 #[.slice A n c, .slice A' m c'] w (Tells (zs = ys) w) := by
  have k1 := hs.str (P := Tryz.prog) 22 9 5 Tryz.underlying22 Tryz.underlying5 Tryz.underlying9 c
  have k2 := hs'.str (P := Tryz.prog) 22 9 5 Tryz.underlying22 Tryz.underlying5 Tryz.underlying9 c'
  have HE := Lib.hid (str_eq hz hy)
  have HS : Hid (zs = ys → strOfNums zs = strOfNums ys) := fun e => by rw [e]
  have HS2 : Hid (strOfNums zs = strOfNums ys → zs = ys) := str_inj hz hy
  clear hs hs' hz hy
  go_enter Tryz.func78, Tryz.ntmps78
  go_wp2
  go_ret
  refine ⟨⟨_, rfl, ?_⟩, Kept.refl _ _⟩
  have he := HE.out
  first
    | exact ⟨fun x => HS2.out (by simpa using x), fun x => by simpa using HS.out x⟩
    | (rw [he]; exact decide_eq_true_iff)
end
end Go.Proofs.YtbnkpnllgoghnaaGreat.PmS

namespace Go.Proofs.YtbnkpnllgoghnaaGreat.PmD
open Go.ChangeShapes Go.WideShapes Go.ChangeAt Go.RowKit
open Go.Proofs.YtbnkpnllgoghnaaGreat.Mem Go.Proofs.YtbnkpnllgoghnaaGreat.Blk Go.Proofs.YtbnkpnllgoghnaaGreat.Cells Go.Proofs.YtbnkpnllgoghnaaGreat.Orow Go.Proofs.YtbnkpnllgoghnaaGreat.GrC Go.Proofs.YtbnkpnllgoghnaaGreat.MdM Go.Proofs.YtbnkpnllgoghnaaGreat.MdC Go.Proofs.YtbnkpnllgoghnaaGreat.MdR Go.Proofs.YtbnkpnllgoghnaaGreat.MdD Go.Proofs.YtbnkpnllgoghnaaGreat.PmC Go.Proofs.YtbnkpnllgoghnaaGreat.PmI Go.Proofs.YtbnkpnllgoghnaaGreat.PmM Go.Proofs.YtbnkpnllgoghnaaGreat.PmP Go.Proofs.YtbnkpnllgoghnaaGreat.PmT Go.Proofs.YtbnkpnllgoghnaaGreat.PmU Go.Proofs.YtbnkpnllgoghnaaGreat.PmV Go.Proofs.YtbnkpnllgoghnaaGreat.PmW Go.Proofs.YtbnkpnllgoghnaaGreat.PmR Go.Proofs.YtbnkpnllgoghnaaGreat.PmK Go.Proofs.YtbnkpnllgoghnaaGreat.Stages
/-- A state of the call's own, whatever it may be: its three parts in three ranges of blocks, all in G. -/
structure OwnP (w : World) (G : Nat → Prop) (m1 m2 : Nat) (vT vB vH : Value) (VB VH : Nat → Value) (s : St) : Prop where
  T : OS w (fun k => G k ∧ k < m1) vT 4 1 s.nT (tcell s.T)
  B : Rs w (fun k => (G k ∧ m1 ≤ k) ∧ k < m2) vB 22 5 .u8 s.nB VB s.B
  H : Rs w (fun k => (G k ∧ m1 ≤ k) ∧ m2 ≤ k) vH 33 3 .i64 s.nH VH s.H
def Own (w : World) (G : Nat → Prop) (v : Value) (s : St) : Prop := ∃ m1 m2 vT vB vH VB VH, v = .agg #[vT, vB, vH] ∧ OwnP w G m1 m2 vT vB vH VB VH s
section
variable {w w0 w1 w' : World} {G F X : Nat → Prop} {v : Value} {s : St}
theorem rs_kept {tr te : TypeId} {k : IntKind} {n : Nat} {V : Nat → Value} {L : Nat → List Int} (h : Rs w G v tr te k n V L) (hk : Kept F w w') (hF : ∀ k, G k → ¬ F k) : Rs w' G v tr te k n V L :=
  ⟨h.out.kept hk hF, fun i hi => (h.row i hi).kept hk hF, h.off, h.ne⟩
theorem rs_mono {tr te : TypeId} {k : IntKind} {n : Nat} {V : Nat → Value} {L : Nat → List Int} (h : Rs w G v tr te k n V L) (hX : ∀ k, k < w.heap.size → G k → X k) : Rs w X v tr te k n V L :=
  ⟨PmR.os_mono h.out hX, fun i hi => PmR.os_mono (h.row i hi) hX, h.off, h.ne⟩
theorem Own.kept (h : Own w G v s) (hk : Kept F w w') (hF : ∀ k, G k → ¬ F k) : Own w' G v s := by
  obtain ⟨m1, m2, vT, vB, vH, VB, VH, e, h⟩ := h
  exact ⟨m1, m2, vT, vB, vH, VB, VH, e, h.T.kept hk (fun k x => hF k x.1), rs_kept h.B hk (fun k x => hF k x.1.1), rs_kept h.H hk (fun k x => hF k x.1.1)⟩
theorem Own.grow (h : Own w G v s) (hk : Grow w w') : Own w' G v s := h.kept hk fun _ _ x => x
theorem Own.mono (h : Own w G v s) (hX : ∀ k, k < w.heap.size → G k → X k) : Own w X v s := by
  obtain ⟨m1, m2, vT, vB, vH, VB, VH, e, h⟩ := h
  exact ⟨m1, m2, vT, vB, vH, VB, VH, e, PmR.os_mono h.T (fun k hk x => ⟨hX k hk x.1, x.2⟩), rs_mono h.B (fun k hk x => ⟨⟨hX k hk x.1.1, x.1.2⟩, x.2⟩), rs_mono h.H (fun k hk x => ⟨⟨hX k hk x.1.1, x.1.2⟩, x.2⟩)⟩
theorem Own.seen (h : Own w G v s) (hb : ∀ i, i < s.nB → Bytes (s.B i)) : Seen w v s := by
  obtain ⟨m1, m2, vT, vB, vH, VB, VH, rfl, h⟩ := h
  obtain ⟨AT, cT, rfl, hT⟩ := os_flags h.T
  obtain ⟨AB, cB, rfl, hB⟩ := h.B.lists
  obtain ⟨AH, cH, rfl, hH⟩ := h.H.lists
  exact ⟨AT, cT, AB, cB, AH, cH, rfl, hT, hB, hH, hb⟩
/-- Rows that are not empty lie in blocks. -/
theorem rs_blocks {tr te : TypeId} {k : IntKind} {n l : Nat} {V : Nat → Value} {L : Nat → List Int} (h : Rs w G v tr te k n V L) (hl : ∀ i, i < n → (L i).length = l) (h0 : 0 < l) :
    ∃ q c : Nat → Nat, ∀ i, i < n → V i = .slice (some ⟨q i, 0, none⟩) l (c i) ∧ OR w (q i) te 1 (c i) l (ncl k (L i)) ∧ G (q i) := by
  have : ∀ i, ∃ p : Nat × Nat, i < n → V i = .slice (some ⟨p.1, 0, none⟩) l p.2 ∧ OR w p.1 te 1 p.2 l (ncl k (L i)) ∧ G p.1 := fun i => by
    by_cases hi : i < n
    · have hr := h.row i hi
      rw [hl i hi] at hr
      obtain ⟨g, c, e, ho, hg⟩ := hr.form h0
      exact ⟨(g, c), fun _ => ⟨e, ho, hg⟩⟩
    · exact ⟨(0, 0), fun x => absurd x hi⟩
  obtain ⟨f, hf⟩ := Classical.axiomOfChoice this
  exact ⟨fun i => (f i).1, fun i => (f i).2, hf⟩
theorem rs_inj {tr te : TypeId} {k : IntKind} {n l : Nat} {V : Nat → Value} {L : Nat → List Int} (h : Rs w G v tr te k n V L) {q c : Nat → Nat} (hV : ∀ i, i < n → V i = .slice (some ⟨q i, 0, none⟩) l (c i)) : (∀ i j, i < n → j < n → q i = q j → i = j) ∧ ∀ i, i < n → v.ownBlock ≠ some (q i) := by
  refine ⟨fun i j hi hj e => ?_, fun i hi => h.off i hi (q i) (by rw [hV i hi]; rfl)⟩
  by_cases e2 : i = j
  · exact e2
  · exact absurd (by rw [hV j hj, e]; rfl) (h.ne i j hi hj e2 (q i) (by rw [hV i hi]; rfl))
theorem Own.patZ {a : Md} (h : Own w G v s) (hza : s = stOf a) (hgood : MdM.Good a) : PAt w G v a := by
  have hm : s.may := hza ▸ good_may hgood
  obtain ⟨m1, m2, vT, vB, vH, VB, VH, rfl, h⟩ := h
  obtain ⟨⟨⟨h1, h2⟩, h3, h4⟩, h5, h6, h7⟩ := hm
  obtain ⟨gT, cT, rfl, oT, iT⟩ := h.T.form (by omega)
  obtain ⟨gB, cB, rfl, oB, iB⟩ := h.B.out.form (by omega)
  obtain ⟨gH, cH, rfl, oH, iH⟩ := h.H.out.form (by omega)
  obtain ⟨qb, cb, hqb⟩ := rs_blocks h.B (fun i hi => (h6 i hi).1) (by omega : 0 < 16)
  obtain ⟨q, cp, hq⟩ := rs_blocks h.H (fun i hi => (h7 i hi).1) (by omega : 0 < 6)
  obtain ⟨jb, nb⟩ := rs_inj h.B (fun i hi => (hqb i hi).1)
  obtain ⟨jq, nq⟩ := rs_inj h.H (fun i hi => (hq i hi).1)
  rw [h5] at *
  subst hza
  have bIn := fun i (hi : i < a.n) => (hqb i hi).2.2
  have qIn := fun i (hi : i < a.N) => (hq i hi).2.2
  refine ⟨hgood, gT, cT, gB, cB, gH, cH, qb, cb, q, cp, rfl, oT, ?_, fun i hi => ?_, ?_, fun i hi => ?_, jb, jq, ⟨?_, ?_, ?_⟩, fun i hi => ⟨?_, ?_, ?_⟩, fun i hi => ⟨?_, ?_, ?_⟩, fun i j hi hj => ?_, ⟨iT.1, iB.1.1, iH.1.1⟩, fun i hi => (bIn i hi).1.1, fun i hi => (qIn i hi).1.1⟩
  · exact oB.congr fun i hi => (hqb i (by omega)).1
  · exact (hqb i hi).2.1
  · exact oH.congr fun i hi => (hq i (by omega)).1
  · refine (hq i hi).2.1.congr fun j hj => ?_
    show Value.int .i64 ((six (a.H i)).getD j 0) = .int .i64 (a.H i j)
    rw [six_get _ (by omega)]
  · intro e; have := iT.2; have := iB.1.2; omega
  · intro e; have := iT.2; have := iH.1.2; omega
  · intro e; have := iB.2; have := iH.2; omega
  · intro e; have := iT.2; have := (bIn i hi).1.2; omega
  · intro e; exact nb i hi (by rw [e]; rfl)
  · intro e; have := iH.2; have := (bIn i hi).2; omega
  · intro e; have := iT.2; have := (qIn i hi).1.2; omega
  · intro e; have := iB.2; have := (qIn i hi).2; omega
  · intro e; exact nq i hi (by rw [e]; rfl)
  · intro e; have := (bIn i hi).2; have := (qIn j hj).2; omega
end
/-! ### clone -/
abbrev put3 (w : World) (g : Nat) (x y u : Value) : World := ((w.setCell ⟨g, 0, none⟩ x).setCell ⟨g, 1, none⟩ y).setCell ⟨g, 2, none⟩ u
theorem put3_blk {w : World} {g : Nat} {t : TypeId} {x y u x' y' u' : Value} (h : Blk w g t [x', y', u']) : Blk (put3 w g x y u) g t [x, y, u] := ((h.set 0 x).set 1 y).set 2 u
theorem put3_kept {F : Nat → Prop} (w : World) (g : Nat) (x y u : Value) (hF : ∀ k, k = g → F k) : Kept F w (put3 w g x y u) := (((kept_set w g 0 x).trans (kept_set _ g 1 y)).trans (kept_set _ g 2 u)).mono fun k _ e => hF k e
/-- A copy of a state, the call's own. -/
def CPost (z : St) (w : World) (e : Ending) (w' : World) : Prop := ∃ v, e = .returned v ∧ (∃ AT cT AB cB AH cH, v = .agg #[.slice AT z.nT cT, .slice AB z.nB cB, .slice AH z.nH cH] ∧ Own w' (w.heap.size ≤ ·) (.agg #[.slice AT z.nT cT, .slice AB z.nB cB, .slice AH z.nH cH]) z) ∧ Grow w w'
section
variable {w : World} {AT AB AH D : Option Addr} {cT cB cH dl dc : Nat} {z : St} {o : MdOp} {a : Md}
set_option maxHeartbeats 8000000 in
theorem clone_any (hp : Parts w AT cT AB cB AH cH z) (hf : z.few) : Calls Tryz.prog 74 #[.agg #[.slice AT z.nT cT, .slice AB z.nB cB, .slice AH z.nH cH]] w (CPost z w) := by
  have hb := Blk.new w 64 [.slice AT z.nT cT, .slice AB z.nB cB, .slice AH z.nH cH]
  have hg : Grow w (w.alloc (.cells #[.slice AT z.nT cT, .slice AB z.nB cB, .slice AH z.nH cH] 64)) := (Kept.refl _ _).alloc _
  have hz : (w.alloc (.cells #[.slice AT z.nT cT, .slice AB z.nB cB, .slice AH z.nH cH] 64)).heap.size = w.heap.size + 1 := by simp
  have hb2 := Blk.new (w.alloc (.cells #[.slice AT z.nT cT, .slice AB z.nB cB, .slice AH z.nH cH] 64)) 64 [.slice none 0 0, .slice none 0 0, .slice none 0 0]
  have hg2 : Grow (w.alloc (.cells #[.slice AT z.nT cT, .slice AB z.nB cB, .slice AH z.nH cH] 64)) ((w.alloc (.cells #[.slice AT z.nT cT, .slice AB z.nB cB, .slice AH z.nH cH] 64)).alloc (.cells #[.slice none 0 0, .slice none 0 0, .slice none 0 0] 64)) := (Kept.refl _ _).alloc _
  rw [hz] at hb2
  have HSB := Lib.hid (hb.grow hg2)
  have HRB := Lib.hid hb2
  have HG0 := Lib.hid (hg.trans hg2)
  have HP := Lib.hid (hp.grow HG0.out)
  have HF := Lib.hid hf
  obtain ⟨P, hP⟩ : ∃ P, P = CPost z w := ⟨_, rfl⟩
  have HPO := Lib.hid hP
  rw [← hP]
  clear hb hg hz hb2 hg2 hp hf hP
  go_enter Tryz.func74, Tryz.ntmps74
  go_upto_region 1 with (fail)
  generalize (w.alloc (.cells #[.slice AT z.nT cT, .slice AB z.nB cB, .slice AH z.nH cH] 64)).alloc (.cells #[.slice none 0 0, .slice none 0 0, .slice none 0 0] 64) = w0 at *
  obtain ⟨s, hs⟩ : ∃ s, s = w.heap.size := ⟨_, rfl⟩
  rw [← hs] at HSB HRB ⊢
  have HSZ := Lib.hid hs
  clear hs
  have s0 := HSB.out.cell 0
  have s1 := HSB.out.cell 1
  have s2 := HSB.out.cell 2
  simp only [List.getElem?_cons_zero, List.getElem?_cons_succ] at s0 s1 s2
  have q0 := up_cell (F := fun x => x = s + 1) (w := w0.drew) (p := ⟨s, 0, none⟩) s0 (fun e => by have e : s = s + 1 := e; omega)
  have q1 := up_cell (F := fun x => x = s + 1) (w := w0.drew) (p := ⟨s, 1, none⟩) s1 (fun e => by have e : s = s + 1 := e; omega)
  have q2 := up_cell (F := fun x => x = s + 1) (w := w0.drew) (p := ⟨s, 2, none⟩) s2 (fun e => by have e : s = s + 1 := e; omega)
  refine wp_region_stages (Kept (fun x => x = s + 1)) (kept_refl _) (kept_trans _) [([0, 1, 3, 4, 6, 7], 2), ([], 5), ([], 8), ([9], 10)] [] (by kernel_rfl) (by kernel_rfl) ?_
  simp only [selSt, sel, List.map_cons, List.map_nil, List.getD_cons_succ, List.getD_cons_zero]
  refine st_cons fun K1 hK1 => ?_
  repeat (go_big_quiet_step (fail))
  refine wpQuiet_nil ?_
  clear q0 q1 q2 s0 s1 s2
  have HGD : Hid (Grow w0 w0.drew) := (Kept.refl _ _).drew
  have HC1 := Lib.hid (clone_bools (A := AT) (T := z.T) (HP.out.T.grow HGD.out) cT (by have := HF.out.nT; omega))
  go_wp2_with (go_at_call 125; (with_reducible refine HC1.out.mono ?_); rintro e w1 ⟨⟨x1, rfl, hx1⟩, hg1⟩; obtain ⟨A1, c1, rfl⟩ := os_form hx1; have HX1 := Lib.hid hx1; have HG1 := Lib.hid hg1; clear hx1 hg1)
  refine norm_up (hK1 _ _ (Grow.kept HG1.out) ?_)
  clear hK1 K1 HC1
  have HGE1 : Hid (Grow w0 w1) := HGD.out.trans HG1.out
  have HC2 := Lib.hid (rows_bytes (HP.out.B.grow HGE1.out) cB HF.out.nB HF.out.B)
  refine st_cons fun K2 hK2 => ?_
  refine wpQuiet_nil ?_
  go_wp2_with (go_at_call 126; (with_reducible refine HC2.out.mono ?_); rintro e w2 ⟨⟨x2, VB, rfl, hx2⟩, hg2⟩; obtain ⟨A2, c2, rfl⟩ := os_form hx2.out; have HX2 := Lib.hid hx2; have HG2 := Lib.hid hg2; clear hx2 hg2)
  refine norm_up (hK2 _ _ (Grow.kept HG2.out) ?_)
  clear hK2 K2 HC2
  have HGE2 : Hid (Grow w0 w2) := HGE1.out.trans HG2.out
  have HC3 := Lib.hid (rows_ints (HP.out.H.grow HGE2.out) cH (by have := HF.out.nH; omega) (fun i hi => by have := HF.out.H i hi; omega))
  refine st_cons fun K3 hK3 => ?_
  refine wpQuiet_nil ?_
  go_wp2_with (go_at_call 127; (with_reducible refine HC3.out.mono ?_); rintro e w3 ⟨⟨x3, VH, rfl, hx3⟩, hg3⟩; obtain ⟨A3, c3, rfl⟩ := os_form hx3.out; have HX3 := Lib.hid hx3; have HG3 := Lib.hid hg3; clear hx3 hg3)
  refine norm_up (hK3 _ _ (Grow.kept HG3.out) ?_)
  clear hK3 K3 HC3
  have HGE3 : Hid (Grow w0 w3) := HGE2.out.trans HG3.out
  have hrb := HRB.out.grow HGE3.out
  have HRB3 := Lib.hid hrb
  have t0 := hrb.cell 0
  have t1 := hrb.cell 1
  have t2 := hrb.cell 2
  have tf := hrb.frozen
  simp only [List.getElem?_cons_zero, List.getElem?_cons_succ] at t0 t1 t2
  clear hrb
  refine st_cons fun K4 hK4 => ?_
  repeat (go_big_quiet_step (fail))
  refine wpQuiet_nil ?_
  go_wp2
  refine norm_up (hK4 _ _ (put3_kept w3 (s + 1) (.slice A1 z.nT c1) (.slice A2 z.nB c2) (.slice A3 z.nH c3) (fun x e => e)) (st_nil fun K5 hK5 => wpQuiet_nil (hK5 _ ?_)))
  clear hK4 K4 hK5 K5 t0 t1 t2 tf
  go_wp2
  have hb5 := put3_blk (x := .slice A1 z.nT c1) (y := .slice A2 z.nB c2) (u := .slice A3 z.nH c3) HRB3.out
  have hk5 : Kept (fun x => x = s + 1) w3 (put3 w3 (s + 1) (.slice A1 z.nT c1) (.slice A2 z.nB c2) (.slice A3 z.nH c3)) := put3_kept w3 (s + 1) _ _ _ (fun x e => e)
  rw [HPO.out]
  refine ret_st rfl rfl hb5 rfl ⟨_, rfl, ⟨_, _, _, _, _, _, rfl, ?_⟩, (HG0.out.trans HGE3.out).then hk5 fun k hk e => by have := HSZ.out; have e : k = s + 1 := e; omega⟩
  have h1 := HRB.out.lt
  have h2 := HGD.out.size
  have h3 := HG1.out.size
  have h4 := HG2.out.size
  have h5 := HG0.out.size
  have o1 := (PmR.os_mono (X := fun k => (w.heap.size ≤ k ∧ s + 1 ≠ k) ∧ k < w1.heap.size) HX1.out fun k hk (x : _ ≤ k) => ⟨⟨by omega, by omega⟩, hk⟩)
  have o2 := (rs_mono (X := fun k => (((w.heap.size ≤ k ∧ s + 1 ≠ k) ∧ w1.heap.size ≤ k)) ∧ k < w2.heap.size) HX2.out fun k hk (x : _ ≤ k) => ⟨⟨⟨by omega, by omega⟩, x⟩, hk⟩)
  have o3 := (rs_mono (X := fun k => (((w.heap.size ≤ k ∧ s + 1 ≠ k) ∧ w1.heap.size ≤ k)) ∧ w2.heap.size ≤ k) HX3.out fun k hk (x : _ ≤ k) => ⟨⟨⟨by omega, by omega⟩, by omega⟩, x⟩)
  have how : Own w3 (fun k => w.heap.size ≤ k ∧ s + 1 ≠ k) (.agg #[.slice A1 z.nT c1, .slice A2 z.nB c2, .slice A3 z.nH c3]) z :=
    ⟨w1.heap.size, w2.heap.size, _, _, _, VB, VH, rfl, (PmR.os_grow o1 HG2.out).kept HG3.out (fun _ _ x => x), rs_kept o2 HG3.out (fun _ _ x => x), o3⟩
  exact (how.kept hk5 fun k hk e => hk.2 e.symm).mono fun k _ x => x.1
end
end Go.Proofs.YtbnkpnllgoghnaaGreat.PmD

namespace Go.Proofs.YtbnkpnllgoghnaaGreat.RepN
open Go.ChangeShapes Go.WideShapes Go.ChangeAt Go.RowKit
open Go.Proofs.YtbnkpnllgoghnaaGreat.Mem Go.Proofs.YtbnkpnllgoghnaaGreat.Blk Go.Proofs.YtbnkpnllgoghnaaGreat.Cells Go.Proofs.YtbnkpnllgoghnaaGreat.Orow Go.Proofs.YtbnkpnllgoghnaaGreat.GrC Go.Proofs.YtbnkpnllgoghnaaGreat.Stages Go.Proofs.YtbnkpnllgoghnaaGreat.Trees
theorem infoI : (Tryz.prog.info? 3).map (fun i => (i.zero, i.size, i.bytes)) = some (some (.int .i64 0), 1, 8) := by kernel_rfl
theorem infoS : (Tryz.prog.info? 33).map (fun i => (i.zero, i.size, i.bytes)) = some (some (.slice none 0 0), 1, 24) := by kernel_rfl
theorem sizeI : (Tryz.prog.info? 3).map (·.size) = some 1 := by kernel_rfl
/-! ### math/bits.Mul, slices.Repeat -/
theorem mul64_any (w : World) : Calls Tryz.prog 166 #[.int .u64 1, .int .u64 6] w fun e w' => e = .returned (.tuple #[.int .u64 0, .int .u64 6]) ∧ w = w' := by
  go_enter Tryz.func166, Tryz.ntmps166
  go_wp2
  go_ret2
  exact ⟨rfl, rfl⟩
theorem mul_any (w : World) : Calls Tryz.prog 124 #[.int .u64 1, .int .u64 6] w fun e w' => e = .returned (.tuple #[.int .u64 0, .int .u64 6]) ∧ w = w' := by
  go_enter Tryz.func124, Tryz.ntmps124
  go_wp2_with (go_at_call 166; (with_reducible refine (mul64_any _).mono ?_); rintro e w' ⟨rfl, rfl⟩)
  go_ret2
  exact ⟨rfl, rfl⟩
/-- The new slice behind q numbers. -/
def zs (q : Nat) : List Int := List.replicate q (-1) ++ List.replicate (6 - q) 0
section
variable {w w' : World} {g b q m : Nat}
theorem rep_first (h : NBlk w g 3 .i64 (zs 0)) {B : Nat} (hx : Sl w B .i64 (some ⟨b, 0, none⟩) 1 [-1]) :
    ∃ w', (Builtin.copy_ #[33, 33] 3 #[.slice (some ⟨g, 0, none⟩) 6 6, .slice (some ⟨b, 0, none⟩) 1 1]).run Tryz.prog w = .ok (.int .i64 1) w' ∧ NBlk w' g 3 .i64 (zs 1) ∧ Kept (· = g) w w' :=
  run_copy (P := Tryz.prog) 33 33 3 3 Tryz.underlying33 sizeI h 0 6 6 1 hx 1 (by decide) (by decide)
theorem rep_next (h : NBlk w g 3 .i64 (zs q)) (hq : q ≤ 6) (hm : Nat.min q (6 - q) = m) (he : (zs q).take q ++ ((((zs q).drop 0).take q).take m ++ (zs q).drop (q + m)) = zs (q + m)) :
    ∃ w', (Builtin.copy_ #[33, 33] 3 #[.slice (some ⟨g, q, none⟩) (6 - q) (6 - q), .slice (some ⟨g, 0, none⟩) q 6]).run Tryz.prog w = .ok (.int .i64 (m : Int)) w' ∧ NBlk w' g 3 .i64 (zs (q + m)) ∧ Kept (· = g) w w' := by
  have hl : (zs q).length = 6 := by unfold zs; rw [List.length_append, List.length_replicate, List.length_replicate]; omega
  have hsl := Sl.of_blk (B := w.heap.size) h 0 q (by omega) h.lt
  have hfit : q + m ≤ (zs q).length := by rw [hl]; have := Nat.min_le_right q (6 - q); rw [show Nat.min q (6 - q) = min q (6 - q) from rfl] at hm; omega
  obtain ⟨w', h1, h2, h3⟩ := run_copy (P := Tryz.prog) 33 33 3 3 Tryz.underlying33 sizeI h q (6 - q) (6 - q) 6 hsl m hm hfit
  rw [he] at h2
  exact ⟨w', h1, h2, h3⟩
theorem or_of (h : NBlk w g 3 .i64 (zs 6)) : OR w g 3 1 6 6 (hcell fun _ => -1) := by
  refine ⟨_, h, rfl, Nat.le_refl _, by unfold maxLen; omega, fun i hi => ?_⟩
  have : i = 0 ∨ i = 1 ∨ i = 2 ∨ i = 3 ∨ i = 4 ∨ i = 5 := by omega
  rcases this with rfl | rfl | rfl | rfl | rfl | rfl <;> rfl
theorem made6 (w : World) : (Instr.makeSlice 33 (.int .i64 6) (.int .i64 6)).run Tryz.prog w = .ok (.slice (some ⟨w.heap.size, 0, none⟩) 6 6) (w.alloc (.cells (madeCells #[.int .i64 0] 6) 3)) := by
  obtain ⟨i, hi, hz, hs, hb⟩ := info_parts infoI
  have := run_make (P := Tryz.prog) w 33 3 i _ Tryz.underlying33 hi hz .i64 .i64 6 6 (by omega) (Int.le_refl _) (by rw [hb]; omega) (by omega)
  rw [hs, show (6 : Int).toNat = 6 by omega] at this
  exact this
/-- Six numbers, all -1. -/
def SixPost (w : World) (e : Ending) (w' : World) : Prop := ∃ g, e = .returned (.slice (some ⟨g, 0, none⟩) 6 6) ∧ w.heap.size ≤ g ∧ OR w' g 3 1 6 6 (hcell fun _ => -1) ∧ Grow w w'
theorem six_post (hg : w.heap.size ≤ g) (h : NBlk w' g 3 .i64 (zs 6)) (hk : Kept (· = g) w w') : SixPost w (.returned (.slice (some ⟨g, 0, none⟩) 6 6)) w' :=
  ⟨g, rfl, hg, or_of h, hk.mono fun k hk e => by omega⟩
set_option maxHeartbeats 1000000 in
theorem repeat_any {B : Nat} (hx : Sl w B .i64 (some ⟨b, 0, none⟩) 1 [-1]) (hB : B ≤ w.heap.size) : Calls Tryz.prog 73 #[.slice (some ⟨b, 0, none⟩) 1 1, .int .i64 6] w (SixPost w) := by
  have HX := Lib.hid hx
  have HBB := Lib.hid hB
  have km := made6
  clear hx hB
  go_enter Tryz.func73, Tryz.ntmps73
  go_upto_region 7 with (go_at_call 124; (with_reducible refine (mul_any _).mono ?_); rintro e w' ⟨rfl, rfl⟩)
  have hb0 : NBlk (w.alloc (.cells (madeCells #[Value.int .i64 0] 6) 3)) w.heap.size 3 .i64 (zs 0) := NBlk.made w 3 .i64 6
  have hg0 : Grow w (w.alloc (.cells (madeCells #[Value.int .i64 0] 6) 3)) := (Kept.refl _ _).alloc _
  have hnew : w.heap.size ≤ w.heap.size := Nat.le_refl _
  clear km
  generalize w.alloc (.cells (madeCells #[Value.int .i64 0] 6) 3) = w1 at hb0 hg0 ⊢
  obtain ⟨g, hgg⟩ : ∃ g, g = w.heap.size := ⟨_, rfl⟩
  rw [← hgg] at hb0 ⊢
  have HGE : Hid (w.heap.size ≤ g) := Nat.le_of_eq hgg.symm
  have hs1 := Blk.Sl.kept HX.out hg0 HBB.out fun _ _ x => x
  obtain ⟨w2, hc2, hb2, hk2⟩ := rep_first hb0 hs1
  have HK2 : Hid (Kept (· = g) w w2) := (Grow.kept hg0).trans hk2
  have HB2 := Lib.hid hb2
  clear hb0 hg0 hs1 hb2 hk2 hgg hnew
  go_wp2
  clear hc2
  go_loopg [8] 5 (fun gx i wr => ∃ (q : Nat) (z : Int), q + gx = 6 ∧ i = .int .i64 z ∧ ((q = 1 ∧ z = 1) ∨ (q = 2 ∧ z = 2) ∨ (q = 4 ∧ z = 4) ∨ (q = 6 ∧ z = 6)) ∧ NBlk wr g 3 .i64 (zs q) ∧ Kept (· = g) w wr)
  case atStart => exact ⟨1, 1, by omega, rfl, .inl ⟨rfl, rfl⟩, HB2.out, HK2.out⟩
  case round =>
    obtain ⟨q, z, hg, rfl, hq, hb, hk⟩ := hrel
    have HG := Lib.hid hg
    have HB := Lib.hid hb
    have HK := Lib.hid hk
    clear hg hb hk
    rcases hq with ⟨rfl, rfl⟩ | ⟨rfl, rfl⟩ | ⟨rfl, rfl⟩ | ⟨rfl, rfl⟩
    · obtain ⟨w3, hc, hb, hk⟩ := rep_next (q := 1) (m := 1) (HB.out.drew) (by omega) rfl rfl
      have HB3 : Hid (NBlk w3 g 3 .i64 (zs 2)) := hb
      have HK3 := Lib.hid hk
      simp only [Int.cast_ofNat_Int, Nat.reduceSub] at hc
      clear hb hk
      go_upto_region 9 with (fail)
      refine wp_region_stages (Kept (· = g)) (kept_refl _) (kept_trans _) [([0, 1, 2, 3, 4, 5, 6], 7)] [8, 9] (by kernel_rfl) (by kernel_rfl) ?_
      simp only [selSt, sel, List.map_cons, List.map_nil, List.getD_cons_succ, List.getD_cons_zero]
      refine st_cons fun K1 hK1 => ?_
      repeat (go_big_quiet_step (fail))
      refine wpQuiet_nil ?_
      go_wp2
      clear hc
      refine norm_up (hK1 _ _ HK3.out (st_nil fun K4 hK4 => ?_))
      clear hK1 K1
      repeat (go_big_quiet_step (fail))
      refine wpQuiet_nil (hK4 _ ?_)
      clear hK4 K4
      go_wp2
      go_roundg 4
      case measure => have := HG.out; omega
      case rel => exact ⟨2, 2, by omega, rfl, .inr <| .inl ⟨rfl, rfl⟩, HB3.out, (HK.out.trans (Kept.drew' wr)).trans HK3.out⟩
    · obtain ⟨w3, hc, hb, hk⟩ := rep_next (q := 2) (m := 2) (HB.out.drew) (by omega) rfl rfl
      have HB3 : Hid (NBlk w3 g 3 .i64 (zs 4)) := hb
      have HK3 := Lib.hid hk
      simp only [Int.cast_ofNat_Int, Nat.reduceSub] at hc
      clear hb hk
      go_upto_region 9 with (fail)
      refine wp_region_stages (Kept (· = g)) (kept_refl _) (kept_trans _) [([0, 1, 2, 3, 4, 5, 6], 7)] [8, 9] (by kernel_rfl) (by kernel_rfl) ?_
      simp only [selSt, sel, List.map_cons, List.map_nil, List.getD_cons_succ, List.getD_cons_zero]
      refine st_cons fun K1 hK1 => ?_
      repeat (go_big_quiet_step (fail))
      refine wpQuiet_nil ?_
      go_wp2
      clear hc
      refine norm_up (hK1 _ _ HK3.out (st_nil fun K4 hK4 => ?_))
      clear hK1 K1
      repeat (go_big_quiet_step (fail))
      refine wpQuiet_nil (hK4 _ ?_)
      clear hK4 K4
      go_wp2
      go_roundg 2
      case measure => have := HG.out; omega
      case rel => exact ⟨4, 4, by omega, rfl, .inr <| .inr <| .inl ⟨rfl, rfl⟩, HB3.out, (HK.out.trans (Kept.drew' wr)).trans HK3.out⟩
    · obtain ⟨w3, hc, hb, hk⟩ := rep_next (q := 4) (m := 2) (HB.out.drew) (by omega) rfl rfl
      have HB3 : Hid (NBlk w3 g 3 .i64 (zs 6)) := hb
      have HK3 := Lib.hid hk
      simp only [Int.cast_ofNat_Int, Nat.reduceSub] at hc
      clear hb hk
      go_upto_region 9 with (fail)
      refine wp_region_stages (Kept (· = g)) (kept_refl _) (kept_trans _) [([0, 1, 2, 3, 4, 5, 6], 7)] [8, 9] (by kernel_rfl) (by kernel_rfl) ?_
      simp only [selSt, sel, List.map_cons, List.map_nil, List.getD_cons_succ, List.getD_cons_zero]
      refine st_cons fun K1 hK1 => ?_
      repeat (go_big_quiet_step (fail))
      refine wpQuiet_nil ?_
      go_wp2
      clear hc
      refine norm_up (hK1 _ _ HK3.out (st_nil fun K4 hK4 => ?_))
      clear hK1 K1
      repeat (go_big_quiet_step (fail))
      refine wpQuiet_nil (hK4 _ ?_)
      clear hK4 K4
      go_wp2
      go_roundg 0
      case measure => have := HG.out; omega
      case rel => exact ⟨6, 6, by omega, rfl, .inr <| .inr <| .inr ⟨rfl, rfl⟩, HB3.out, (HK.out.trans (Kept.drew' wr)).trans HK3.out⟩
    · go_wp2
      go_ret
      exact six_post HGE.out HB.out HK.out
end
end Go.Proofs.YtbnkpnllgoghnaaGreat.RepN

namespace Go.Proofs.YtbnkpnllgoghnaaGreat.PmN
open Go.ChangeShapes Go.WideShapes Go.ChangeAt Go.RowKit
open Go.Proofs.YtbnkpnllgoghnaaGreat.Mem Go.Proofs.YtbnkpnllgoghnaaGreat.Blk Go.Proofs.YtbnkpnllgoghnaaGreat.Cells Go.Proofs.YtbnkpnllgoghnaaGreat.Orow Go.Proofs.YtbnkpnllgoghnaaGreat.GrC Go.Proofs.YtbnkpnllgoghnaaGreat.MdM Go.Proofs.YtbnkpnllgoghnaaGreat.MdC Go.Proofs.YtbnkpnllgoghnaaGreat.PmC Go.Proofs.YtbnkpnllgoghnaaGreat.PmR Go.Proofs.YtbnkpnllgoghnaaGreat.PmK Go.Proofs.YtbnkpnllgoghnaaGreat.PmD Go.Proofs.YtbnkpnllgoghnaaGreat.RepN Go.Proofs.YtbnkpnllgoghnaaGreat.Stages Go.Proofs.YtbnkpnllgoghnaaGreat.Trees
/-- What New makes. -/
def NewP (n N : Nat) (w : World) (e : Ending) (w' : World) : Prop := ∃ v, e = .returned v ∧ PAt w' (w.heap.size ≤ ·) v (fresh n N) ∧ Grow w w'
def ZeroP (w : World) (e : Ending) (w' : World) : Prop := e = .returned (.agg #[.slice none 0 0, .slice none 0 0, .slice none 0 0]) ∧ Grow w w'
theorem made_bools (n : Nat) (hn : n ≤ 48) (w : World) : (Instr.makeSlice 46 (.int .i64 (n : Int)) (.int .i64 (n : Int))).run Tryz.prog w = .ok (.slice (some ⟨w.heap.size, 0, none⟩) n n) (w.alloc (.cells (madeCells #[.bool false] n) 4)) := by
  obtain ⟨i, hi, hz, hs, hb⟩ := info_parts infoclone_bools
  have := run_make (P := Tryz.prog) w 46 4 i _ Tryz.underlying46 hi hz .i64 .i64 (n : Int) (n : Int) (by omega) (Int.le_refl _) (by rw [hb]; omega) (by omega)
  rw [hs, Int.toNat_natCast, Nat.mul_one] at this
  exact this
theorem or_bools (w : World) (n : Nat) (hn : n ≤ 48) : OR (w.alloc (.cells (madeCells #[.bool false] n) 4)) w.heap.size 4 1 n n (tcell fun _ => false) := by
  have hl : (madeCells #[Value.bool false] n).toList = List.replicate n (Value.bool false) := toList_madeCells_one _ _
  refine ⟨_, heap_alloc_new w _, ?_, Nat.le_refl _, by unfold maxLen; omega, fun i hi => ?_⟩
  · rw [← Array.length_toList, hl, List.length_replicate, Nat.mul_one]
  · rw [← Array.getElem?_toList, hl]
    have hi : i < n := by omega
    simp [hi, tcell]
theorem or_zeros {w : World} {g : Nat} (h : NBlk w g 5 .u8 (List.replicate 16 0)) : OR w g 5 1 16 16 (ncl .u8 zeros) := by
  refine ⟨_, h, rfl, Nat.le_refl _, by unfold maxLen; omega, fun i hi => ?_⟩
  have hi : i < 16 := by omega
  unfold ncl zeros
  rw [show ((List.replicate 16 (0 : Int)).map (Value.int .u8)).toArray[i]? = ((List.replicate 16 (0 : Int)).map (Value.int .u8))[i]? by simp]
  rw [List.map_replicate]
  simp only [List.getElem?_replicate, if_pos hi, List.getD_eq_getElem?_getD]
  rfl
theorem new_bad (p c : Int) (w : World) (h : ¬ ((1 ≤ p ∧ p ≤ 48) ∧ 1 ≤ c ∧ c ≤ 6)) : Calls Tryz.prog 25 #[.int .i64 p, .int .i64 c] w (ZeroP w) := by
  by_cases h1 : p < 1
  · clear h
    go_enter Tryz.func25, Tryz.ntmps25
    go_wp2
    exact ret_st rfl rfl (Blk.new w 64 [.slice none 0 0, .slice none 0 0, .slice none 0 0]) rfl ⟨rfl, (Kept.refl _ _).alloc _⟩
  · have h1' : 1 ≤ p := by omega
    by_cases h2 : 48 < p
    · clear h h1
      go_enter Tryz.func25, Tryz.ntmps25
      go_wp2
      exact ret_st rfl rfl (Blk.new w 64 [.slice none 0 0, .slice none 0 0, .slice none 0 0]) rfl ⟨rfl, (Kept.refl _ _).alloc _⟩
    · have h2' : p ≤ 48 := by omega
      by_cases h3 : c < 1
      · clear h h1 h2
        go_enter Tryz.func25, Tryz.ntmps25
        go_wp2
        exact ret_st rfl rfl (Blk.new w 64 [.slice none 0 0, .slice none 0 0, .slice none 0 0]) rfl ⟨rfl, (Kept.refl _ _).alloc _⟩
      · have h3' : 1 ≤ c := by omega
        have h4 : 6 < c := by omega
        clear h h1 h2 h3
        go_enter Tryz.func25, Tryz.ntmps25
        go_wp2
        exact ret_st rfl rfl (Blk.new w 64 [.slice none 0 0, .slice none 0 0, .slice none 0 0]) rfl ⟨rfl, (Kept.refl _ _).alloc _⟩
/-- A state that is being made: its box, and what its parts are so far. -/
structure Nw (w : World) (B d gT m2 n j k : Nat) (vB vH : Value) (VB VH : Nat → Value) : Prop where
  bx : Blk w d 64 [.slice (some ⟨gT, 0, none⟩) n n, vB, vH]
  T : OR w gT 4 1 n n (tcell fun _ => false)
  RB : Rs w (fun x => d + 1 ≤ x ∧ x < m2) vB 22 5 .u8 j VB (fun _ => zeros)
  RH : Rs w (fun x => d + 1 ≤ x ∧ m2 ≤ x) vH 33 3 .i64 k VH (fun _ => six fun _ => -1)
  lt : B < gT ∧ gT < d
  rs : Blk w B 64 [.slice none 0 0, .slice none 0 0, .slice none 0 0]
section
variable {w w' w2 w3 : World} {B d gT m2 n N j k : Nat} {vB vH : Value} {VB VH : Nat → Value} {F : Nat → Prop}
theorem Nw.grow (h : Nw w B d gT m2 n j k vB vH VB VH) (hk : Grow w w') : Nw w' B d gT m2 n j k vB vH VB VH := ⟨h.bx.grow hk, h.T.grow hk, h.RB.grow hk, h.RH.grow hk, h.lt, h.rs.grow hk⟩
def NxB (w : World) (B d gT n j : Nat) (wx : World) : Prop := ∃ vB VB, Nw wx B d gT wx.heap.size n j 0 vB (.slice none 0 0) VB VB ∧ Grow w wx
def NxH (w : World) (B d gT m2 n k : Nat) (wx : World) : Prop := ∃ vB VB vH VH, Nw wx B d gT m2 n n k vB vH VB VH ∧ Grow w wx
set_option maxHeartbeats 8000000 in
theorem new_any (n N : Nat) (h1 : 1 ≤ n) (h2 : n ≤ 48) (h3 : 1 ≤ N) (h4 : N ≤ 6) (w : World) : Calls Tryz.prog 25 #[.int .i64 (n : Int), .int .i64 (N : Int)] w (NewP n N w) := by
  have hn1 : 1 ≤ (n : Int) := by omega
  have hn2 : (n : Int) ≤ 48 := by omega
  have hn3 : 1 ≤ (N : Int) := by omega
  have hn4 : (N : Int) ≤ 6 := by omega
  have HNn := Lib.hid (And.intro h1 h2)
  have HNN := Lib.hid (And.intro h3 h4)
  have km := made_bools n h2
  have hrb := Blk.new w 64 [.slice none 0 0, .slice none 0 0, .slice none 0 0]
  have hg0 : Grow w (w.alloc (.cells #[.slice none 0 0, .slice none 0 0, .slice none 0 0] 64)) := (Kept.refl _ _).alloc _
  obtain ⟨P, hP⟩ : ∃ P, P = NewP n N w := ⟨_, rfl⟩
  have HP := Lib.hid hP
  rw [← hP]
  have HRB := Lib.hid hrb
  have HG0 := Lib.hid hg0
  obtain ⟨B, hB⟩ : ∃ B, B = w.heap.size := ⟨_, rfl⟩
  have HB := Lib.hid hB
  clear h1 h2 h3 h4 hP hrb hg0 hB
  go_enter Tryz.func25, Tryz.ntmps25
  go_upto_region 3 with (fail)
  have hz1 : (w.alloc (.cells #[.slice none 0 0, .slice none 0 0, .slice none 0 0] 64)).heap.size = B + 1 := by rw [HB.out]; simp
  rw [← HB.out] at HRB ⊢
  generalize w.alloc (.cells #[.slice none 0 0, .slice none 0 0, .slice none 0 0] 64) = w1 at *
  have hT := or_bools w1 n HNn.out.2
  have hgT : Grow w1 (w1.alloc (.cells (madeCells #[Value.bool false] n) 4)) := (Kept.refl _ _).alloc _
  have hzT : (w1.alloc (.cells (madeCells #[Value.bool false] n) 4)).heap.size = B + 1 + 1 := by simp [hz1]
  rw [hz1] at hT
  have hbx := Blk.new (w1.alloc (.cells (madeCells #[Value.bool false] n) 4)) 64 [.slice (some ⟨B + 1, 0, none⟩) n n, .slice none 0 0, .slice none 0 0]
  have hgx : Grow (w1.alloc (.cells (madeCells #[Value.bool false] n) 4)) ((w1.alloc (.cells (madeCells #[Value.bool false] n) 4)).alloc (.cells #[.slice (some ⟨B + 1, 0, none⟩) n n, .slice none 0 0, .slice none 0 0] 64)) := (Kept.refl _ _).alloc _
  rw [hzT] at hbx
  have HN0 : Hid (Nw ((w1.alloc (.cells (madeCells #[Value.bool false] n) 4)).alloc (.cells #[.slice (some ⟨B + 1, 0, none⟩) n n, .slice none 0 0, .slice none 0 0] 64)) B (B + 1 + 1) (B + 1) (B + 1 + 1 + 1) n 0 0 (.slice none 0 0) (.slice none 0 0) (fun _ => .nilIface) (fun _ => .nilIface)) :=
    ⟨hbx, hT.grow hgx, rs_nil _ _ _ _ _ _ _, rs_nil _ _ _ _ _ _ _, by omega, (HRB.out.grow hgT).grow hgx⟩
  have HG1 : Hid (Grow w ((w1.alloc (.cells (madeCells #[Value.bool false] n) 4)).alloc (.cells #[.slice (some ⟨B + 1, 0, none⟩) n n, .slice none 0 0, .slice none 0 0] 64))) := (HG0.out.trans hgT).trans hgx
  have hzx : ((w1.alloc (.cells (madeCells #[Value.bool false] n) 4)).alloc (.cells #[.slice (some ⟨B + 1, 0, none⟩) n n, .slice none 0 0, .slice none 0 0] 64)).heap.size = B + 1 + 1 + 1 := by simp [hz1]
  have HZX := Lib.hid hzx
  rw [← hzx] at HN0
  clear hT hgT hbx hgx hzx HRB HG0
  go_upto_region 4 with (fail)
  generalize hd : B + 1 + 1 = d at *
  generalize hgt : B + 1 = gT at *
  generalize (w1.alloc (.cells (madeCells #[Value.bool false] n) 4)).alloc (.cells #[.slice (some ⟨gT, 0, none⟩) n n, .slice none 0 0, .slice none 0 0] 64) = w2 at *
  have HGT := Lib.hid hgt
  have HD := Lib.hid hd
  clear hz1 hzT km hd hgt
  have km := made16
  go_wp2
  go_loopg [25] n (fun gx i wr => ∃ j : Nat, j + gx = n ∧ i = .int .i64 (j : Int) ∧ NxB w B d gT n j wr)
  case atStart => exact ⟨0, by omega, rfl, _, _, HN0.out, HG1.out⟩
  case round =>
    obtain ⟨j, hg, rfl, vB, VB, hnw, hgr⟩ := hrel
    have HG := Lib.hid hg
    have HNW := Lib.hid hnw
    have HGR := Lib.hid hgr
    clear hg hnw hgr
    by_cases hj : j < n
    · have hjz : (j : Int) < (n : Int) := by omega
      have HJ := Lib.hid hj
      obtain ⟨Av, cv, rfl⟩ := os_form HNW.out.RB.out
      have c0 := HNW.out.bx.cell 1
      simp only [List.getElem?_cons_zero, List.getElem?_cons_succ] at c0
      have HOD : Hid (∀ k, (Value.slice Av j cv).ownBlock = some k → d + 1 ≤ k) := fun k e => (PmR.os_in HNW.out.RB.out e).1.1
      have q0 := up_cell (F := fun k => (Value.slice Av j cv).ownBlock = some k) (w := wr.drew) (p := ⟨d, 1, none⟩) c0 (fun e => by have := HOD.out d e; omega)
      clear c0 hj
      go_upto_region 6 with (fail)
      refine wp_region_tree (Kept fun k => (Value.slice Av j cv).ownBlock = some k) (Kept fun k => (Value.slice Av j cv).ownBlock = some k ∨ k = d) (kept_refl _) (kept_trans _) (kept_refl _) (kept_trans _) (fun _ _ h => h.mono fun _ _ x => .inl x) [6]
        (.one true [0, 1] 2 (.one true [] 3 (.one true [] 4 (.one false [5] 6 (.last false []))))) (by kernel_rfl) (by kernel_rfl) ?_
      refine tr_oneE fun K hK => ?_
      simp only [sel, List.map_cons, List.map_nil, List.getD_cons_succ, List.getD_cons_zero]
      repeat (go_big_quiet_step (fail))
      refine wpQuiet_nil ?_
      clear q0
      go_wp2
      refine norm_up (hK _ _ (Lr_early (by decide) (show Kept _ wr.drew (wr.alloc (.cells (madeCells #[Value.int .u8 0] 16) 5)).drew from (Kept.refl _ wr.drew).alloc (.cells (madeCells #[Value.int .u8 0] 16) 5))) ?_)
      clear hK K
      have HRO : Hid (OS (wr.alloc (.cells (madeCells #[Value.int .u8 0] 16) 5)).drew (wr.heap.size ≤ ·) (.slice (some ⟨wr.heap.size, 0, none⟩) 16 16) 5 1 16 (ncl .u8 zeros)) := .inr ⟨wr.heap.size, 16, rfl, or_zeros (Blk.drew (NBlk.made wr 5 .u8 16)), Nat.le_refl _⟩
      have HG2 : Hid (Grow wr (wr.alloc (.cells (madeCells #[Value.int .u8 0] 16) 5)).drew) := ((Kept.refl _ wr).alloc _).drew
      have HN2 := Lib.hid (HNW.out.grow HG2.out)
      generalize (wr.alloc (.cells (madeCells #[Value.int .u8 0] 16) 5)).drew = x2 at HRO HG2 HN2 ⊢
      refine tr_oneE fun K hK => ?_
      simp only [sel, List.map_cons, List.map_nil, List.getD_cons_succ, List.getD_cons_zero]
      refine wpQuiet_nil ?_
      go_wp2
      refine norm_up (hK _ _ (Lr_early (by decide) ((Kept.refl _ _).alloc _)) ?_)
      clear hK K
      have HX3 : Hid ((x2.alloc (.cells #[.slice (some ⟨wr.heap.size, 0, none⟩) 16 16] 22)).cell? ⟨x2.heap.size, 0, none⟩ = some (.slice (some ⟨wr.heap.size, 0, none⟩) 16 16)) := cell_new1 _ _ _
      have HG3 : Hid (Grow x2 (x2.alloc (.cells #[.slice (some ⟨wr.heap.size, 0, none⟩) 16 16] 22))) := (Kept.refl _ x2).alloc _
      generalize x2.alloc (.cells #[.slice (some ⟨wr.heap.size, 0, none⟩) 16 16] 22) = x3 at HX3 HG3 ⊢
      have HN3 := Lib.hid (HN2.out.grow HG3.out)
      have HR3 := Lib.hid (os_grow HRO.out HG3.out)
      obtain ⟨i0, hi0, hz0, hz1', hz2⟩ := info_parts inforows_bytes
      obtain ⟨g4, cap4, x4, hr4, ho4, hk4, hb4⟩ := append_or (P := Tryz.prog) 62 0 i0 _ 24 Tryz.underlying62 hi0 hz0 hz1' hz2 rfl (by omega) HN3.out.RB.out (by have := HJ.out; have := HNn.out; have := HNN.out; omega) (by omega) x2.heap.size 1 (u := fun _ => .slice (some ⟨wr.heap.size, 0, none⟩) 16 16) (fun q hq => by obtain rfl : q = 0 := (by omega); exact HX3.out) (fun q hq => rfl)
      have HR4 : Hid (∀ ty, (Builtin.append_ #[62, 62] ty #[.slice Av j cv, .slice (some ⟨x2.heap.size, 0, none⟩) 1 1]).run Tryz.prog x3 = .ok (.slice (some ⟨g4, 0, none⟩) (j + 1) cap4) x4) := fun ty => hr4
      have HO4 := Lib.hid ho4
      have HK4 := Lib.hid hk4
      have HB4 := Lib.hid hb4
      clear hr4 ho4 hk4 hb4 hi0 hz0 hz1' hz2
      refine tr_oneE fun K hK => ?_
      simp only [sel, List.map_cons, List.map_nil, List.getD_cons_succ, List.getD_cons_zero]
      refine wpQuiet_nil ?_
      go_wp2_with (at_builtin; refine Lib.wpList_append_run _ rfl _ _ _ _ rfl _ _ rfl rfl _ _ (HR4.out _) ?_)
      refine norm_up (hK _ _ (Lr_early (by decide) HK4.out) ?_)
      clear hK K
      have hcd := (HN3.out.bx.kept HK4.out (fun e => by have := HOD.out d e; omega))
      have HCD := Lib.hid hcd
      have c0 := hcd.cell 1
      have f0 := hcd.frozen 1
      simp only [List.getElem?_cons_zero, List.getElem?_cons_succ] at c0
      clear hcd
      have HPU := Lib.hid ((rs_mono (X := fun x => d + 1 ≤ x) HN3.out.RB fun k _ x => x.1).push (L := fun _ => zeros) (x := .slice (some ⟨wr.heap.size, 0, none⟩) 16 16) (PmR.os_mono HR3.out fun k _ (x : _ ≤ k) => by have := HNW.out.bx.lt; show d + 1 ≤ k; omega) (fun i hi r hr e => by
        have h1 := (PmR.os_in (HNW.out.RB.row i hi) hr).2
        have h2 : _ ≤ r := (PmR.os_in HRO.out e).1
        omega) (fun r hr e => by
        have h1 := (PmR.os_in HNW.out.RB.out e).2
        have h2 : _ ≤ r := (PmR.os_in HRO.out hr).1
        omega) HO4.out HK4.out HB4.out (fun k hk => by have := HN3.out.bx.lt; show d + 1 ≤ k; omega))
      have HK5 : Hid (Kept (fun k => k = d) x4 (x4.setCell ⟨d, 1, none⟩ (.slice (some ⟨g4, 0, none⟩) (j + 1) cap4))) := kept_set x4 d 1 _
      have HBX : Hid (Blk (x4.setCell ⟨d, 1, none⟩ (.slice (some ⟨g4, 0, none⟩) (j + 1) cap4)) d 64 [.slice (some ⟨gT, 0, none⟩) n n, .slice (some ⟨g4, 0, none⟩) (j + 1) cap4, .slice none 0 0]) := HCD.out.set 1 _
      have HRS5 := Lib.hid ((HN3.out.rs.kept HK4.out (fun e => by have := HOD.out B e; have := HNW.out.lt; omega)).kept HK5.out (fun e => by have e : B = d := e; have := HNW.out.lt; omega))
      have HT5 := Lib.hid ((HN3.out.T.kept HK4.out (fun e => by have := HOD.out gT e; have := HNW.out.lt; omega)).kept HK5.out (fun e => by have e : gT = d := e; have := HNW.out.lt; omega))
      have HRB5 := Lib.hid (rs_kept HPU.out HK5.out (fun k hk e => by have e : k = d := e; have hk : d + 1 ≤ k := hk; omega))
      have HGE : Hid (Grow w (x4.setCell ⟨d, 1, none⟩ (.slice (some ⟨g4, 0, none⟩) (j + 1) cap4))) := (((HGR.out.trans HG2.out).trans HG3.out).then HK4.out fun k hk e => by
        have := HOD.out k e
        have := HB.out
        have := HNW.out.lt
        omega).then HK5.out fun k hk e => by
        have e : k = d := e
        have := HB.out
        have := HNW.out.lt
        omega
      refine tr_oneL fun K hK => ?_
      simp only [sel, List.map_cons, List.map_nil, List.getD_cons_succ, List.getD_cons_zero]
      repeat (go_big_quiet_step (fail))
      refine wpQuiet_nil ?_
      go_wp2
      refine norm_up (hK _ _ (Lr_late (by decide) (HK5.out.mono fun x _ e => .inr e)) ?_)
      clear hK K c0 f0
      refine tr_lastL fun K hK => ?_
      simp only [sel, List.map_nil]
      refine wpQuiet_nil (hK _ ?_)
      clear hK K
      generalize x4.setCell ⟨d, 1, none⟩ (.slice (some ⟨g4, 0, none⟩) (j + 1) cap4) = x5 at *
      go_wp2
      go_roundg (gk - 1)
      case measure => have := HG.out; have := HJ.out; omega
      case rel => exact ⟨j + 1, by have := HG.out; have := HJ.out; omega, by go_num, _, _, ⟨HBX.out, HT5.out, rs_mono HRB5.out (fun k hk x => ⟨x, hk⟩), rs_nil _ _ _ _ _ _ _, HNW.out.lt, HRS5.out⟩, HGE.out⟩
    · obtain rfl : j = n := by have := HG.out; omega
      clear hj HG HN0 HG1 HZX
      obtain ⟨wq, rfl⟩ : ∃ wq, wq = wr := ⟨_, rfl⟩
      have HNW0 : Hid (Nw wq B d gT wq.heap.size j j 0 vB (.slice none 0 0) VB (fun _ => .nilIface)) := ⟨HNW.out.bx, HNW.out.T, HNW.out.RB, rs_nil _ _ _ _ _ _ _, HNW.out.lt, HNW.out.rs⟩
      clear HNW
      go_wp2
      go_loopg [35] N (fun gx i wr => ∃ k : Nat, k + gx = N ∧ i = .int .i64 (k : Int) ∧ NxH w B d gT wq.heap.size j k wr ∧ wq.heap.size ≤ wr.heap.size)
      case atStart => exact ⟨0, by omega, rfl, ⟨_, _, _, _, HNW0.out, HGR.out⟩, Nat.le_refl _⟩
      case round =>
        obtain ⟨k, hg, rfl, ⟨vB, VB, vH, VH, hnw, hgr⟩, hle⟩ := hrel
        have HG := Lib.hid hg
        have HNW := Lib.hid hnw
        have HGR := Lib.hid hgr
        have HLE := Lib.hid hle
        clear hg hnw hgr hle HNW0
        by_cases hj : k < N
        · have hjz : (k : Int) < (N : Int) := by omega
          have HJ := Lib.hid hj
          obtain ⟨Av, cv, rfl⟩ := os_form HNW.out.RH.out
          have c0 := HNW.out.bx.cell 2
          simp only [List.getElem?_cons_zero, List.getElem?_cons_succ] at c0
          have HOD : Hid (∀ x, (Value.slice Av k cv).ownBlock = some x → d + 1 ≤ x ∧ wq.heap.size ≤ x) := fun x e => (PmR.os_in HNW.out.RH.out e).1
          have q0 := up_cell (F := fun x => (Value.slice Av k cv).ownBlock = some x) (w := wr.drew) (p := ⟨d, 2, none⟩) c0 (fun e => by have := (HOD.out d e).1; omega)
          clear c0 hj
          go_upto_region 10 with (fail)
          refine wp_region_tree (Kept fun x => (Value.slice Av k cv).ownBlock = some x) (Kept fun x => (Value.slice Av k cv).ownBlock = some x ∨ x = d) (kept_refl _) (kept_trans _) (kept_refl _) (kept_trans _) (fun _ _ h => h.mono fun _ _ x => .inl x) [7]
            (.one true [0, 1] 2 (.one true [] 3 (.one true [] 4 (.one true [] 5 (.one false [6] 7 (.last false [])))))) (by kernel_rfl) (by kernel_rfl) ?_
          refine tr_oneE fun K hK => ?_
          simp only [sel, List.map_cons, List.map_nil, List.getD_cons_succ, List.getD_cons_zero]
          repeat (go_big_quiet_step (fail))
          refine wpQuiet_nil ?_
          clear q0
          go_wp2
          refine norm_up (hK _ _ (Lr_early (by decide) (show Kept _ wr.drew (wr.alloc (.cells #[.int .i64 (-1)] 3)).drew from (Kept.refl _ wr.drew).alloc (.cells #[.int .i64 (-1)] 3))) ?_)
          clear hK K
          have HX : Hid (NBlk (wr.alloc (.cells #[.int .i64 (-1)] 3)).drew wr.heap.size 3 .i64 [-1]) := Blk.drew (NBlk.new wr 3 .i64 [-1])
          have HG1 : Hid (Grow wr (wr.alloc (.cells #[.int .i64 (-1)] 3)).drew) := ((Kept.refl _ wr).alloc _).drew
          generalize (wr.alloc (.cells #[.int .i64 (-1)] 3)).drew = x1 at HX HG1 ⊢
          have CR := Lib.hid (repeat_any (w := x1) (b := wr.heap.size) (Sl.of_blk0 (B := x1.heap.size) HX.out rfl HX.out.lt) (Nat.le_refl _))
          refine tr_oneE fun K hK => ?_
          simp only [sel, List.map_cons, List.map_nil, List.getD_cons_succ, List.getD_cons_zero]
          refine wpQuiet_nil ?_
          go_wp2_with (go_at_call 73; (with_reducible refine CR.out.mono ?_); rintro e x2 ⟨r, rfl, hlt, hrow, hgr⟩; have HLT := Lib.hid hlt; have HRW := Lib.hid hrow; have HG2 := Lib.hid hgr; clear hlt hrow hgr)
          refine norm_up (hK _ _ (Lr_early (by decide) (Grow.kept HG2.out)) ?_)
          clear hK K CR
          have HRO : Hid (OS x2 (wr.heap.size ≤ ·) (.slice (some ⟨r, 0, none⟩) 6 6) 3 1 6 (ncl .i64 (six fun _ => -1))) := .inr ⟨r, 6, rfl, HRW.out.congr fun i hi => (by
            show Value.int .i64 (-1) = .int .i64 ((six fun _ => -1).getD i 0)
            rw [six_get _ (by omega)]), by have := HLT.out; have := HG1.out.size; show wr.heap.size ≤ r; omega⟩
          have HN2 := Lib.hid ((HNW.out.grow HG1.out).grow HG2.out)
          refine tr_oneE fun K hK => ?_
          simp only [sel, List.map_cons, List.map_nil, List.getD_cons_succ, List.getD_cons_zero]
          refine wpQuiet_nil ?_
          go_wp2
          refine norm_up (hK _ _ (Lr_early (by decide) ((Kept.refl _ _).alloc _)) ?_)
          clear hK K
          have HX3 : Hid ((x2.alloc (.cells #[.slice (some ⟨r, 0, none⟩) 6 6] 33)).cell? ⟨x2.heap.size, 0, none⟩ = some (.slice (some ⟨r, 0, none⟩) 6 6)) := cell_new1 _ _ _
          have HG3 : Hid (Grow x2 (x2.alloc (.cells #[.slice (some ⟨r, 0, none⟩) 6 6] 33))) := (Kept.refl _ x2).alloc _
          generalize x2.alloc (.cells #[.slice (some ⟨r, 0, none⟩) 6 6] 33) = x3 at HX3 HG3 ⊢
          have HN3 := Lib.hid (HN2.out.grow HG3.out)
          have HR3 := Lib.hid (os_grow HRO.out HG3.out)
          obtain ⟨i0, hi0, hz0, hz1', hz2⟩ := info_parts inforows_ints
          obtain ⟨g4, cap4, x4, hr4, ho4, hk4, hb4⟩ := append_or (P := Tryz.prog) 48 0 i0 _ 24 Tryz.underlying48 hi0 hz0 hz1' hz2 rfl (by omega) HN3.out.RH.out (by have := HJ.out; have := HNn.out; have := HNN.out; omega) (by omega) x2.heap.size 1 (u := fun _ => .slice (some ⟨r, 0, none⟩) 6 6) (fun q hq => by obtain rfl : q = 0 := (by omega); exact HX3.out) (fun q hq => rfl)
          have HR4 : Hid (∀ ty, (Builtin.append_ #[48, 48] ty #[.slice Av k cv, .slice (some ⟨x2.heap.size, 0, none⟩) 1 1]).run Tryz.prog x3 = .ok (.slice (some ⟨g4, 0, none⟩) (k + 1) cap4) x4) := fun ty => hr4
          have HO4 := Lib.hid ho4
          have HK4 := Lib.hid hk4
          have HB4 := Lib.hid hb4
          clear hr4 ho4 hk4 hb4 hi0 hz0 hz1' hz2
          refine tr_oneE fun K hK => ?_
          simp only [sel, List.map_cons, List.map_nil, List.getD_cons_succ, List.getD_cons_zero]
          refine wpQuiet_nil ?_
          go_wp2_with (at_builtin; refine Lib.wpList_append_run _ rfl _ _ _ _ rfl _ _ rfl rfl _ _ (HR4.out _) ?_)
          refine norm_up (hK _ _ (Lr_early (by decide) HK4.out) ?_)
          clear hK K
          have hcd := (HN3.out.bx.kept HK4.out (fun e => by have := (HOD.out d e).1; omega))
          have HCD := Lib.hid hcd
          have c0 := hcd.cell 2
          have f0 := hcd.frozen 2
          simp only [List.getElem?_cons_zero, List.getElem?_cons_succ] at c0
          clear hcd
          have HPU := Lib.hid ((rs_mono (X := fun x => d + 1 ≤ x ∧ wq.heap.size ≤ x) HN3.out.RH fun k _ x => x).push (L := fun _ => six fun _ => -1) (x := .slice (some ⟨r, 0, none⟩) 6 6) (PmR.os_mono HR3.out fun y _ (x : _ ≤ y) => by have := HNW.out.bx.lt; have := HLE.out; show d + 1 ≤ y ∧ wq.heap.size ≤ y; omega) (fun i hi r hr e => by
            have h1 := (PmR.os_in (HNW.out.RH.row i hi) hr).2
            have h2 : _ ≤ r := (PmR.os_in HRO.out e).1
            omega) (fun r hr e => by
            have h1 := (PmR.os_in HNW.out.RH.out e).2
            have h2 : _ ≤ r := (PmR.os_in HRO.out hr).1
            omega) HO4.out HK4.out HB4.out (fun y hk => by have := HN3.out.bx.lt; have := HLE.out; have := HG1.out.size; have := HG2.out.size; have := HG3.out.size; show d + 1 ≤ y ∧ wq.heap.size ≤ y; omega))
          have HK5 : Hid (Kept (fun y => y = d) x4 (x4.setCell ⟨d, 2, none⟩ (.slice (some ⟨g4, 0, none⟩) (k + 1) cap4))) := kept_set x4 d 2 _
          have HBX : Hid (Blk (x4.setCell ⟨d, 2, none⟩ (.slice (some ⟨g4, 0, none⟩) (k + 1) cap4)) d 64 [.slice (some ⟨gT, 0, none⟩) j j, vB, .slice (some ⟨g4, 0, none⟩) (k + 1) cap4]) := HCD.out.set 2 _
          have HRS5 := Lib.hid ((HN3.out.rs.kept HK4.out (fun e => by have := (HOD.out B e).1; have := HNW.out.lt; omega)).kept HK5.out (fun e => by have e : B = d := e; have := HNW.out.lt; omega))
          have HT5 := Lib.hid ((HN3.out.T.kept HK4.out (fun e => by have := (HOD.out gT e).1; have := HNW.out.lt; omega)).kept HK5.out (fun e => by have e : gT = d := e; have := HNW.out.lt; omega))
          have HRB6 := Lib.hid (rs_kept (rs_kept HN3.out.RB HK4.out (fun y hk e => by have h1 := (HOD.out y e).2; have h2 := hk.2; omega)) HK5.out (fun y hk e => by have e : y = d := e; have hk := hk.1; omega))
          have HRB5 := Lib.hid (rs_kept HPU.out HK5.out (fun y hk e => by have e : y = d := e; have hk := hk.1; omega))
          have HGE : Hid (Grow w (x4.setCell ⟨d, 2, none⟩ (.slice (some ⟨g4, 0, none⟩) (k + 1) cap4))) := ((((HGR.out.trans HG1.out).trans HG2.out).trans HG3.out).then HK4.out fun y hk e => by
            have := (HOD.out _ e).1
            have := HB.out
            have := HNW.out.lt
            omega).then HK5.out fun y hk e => by
            have e : y = d := e
            have := HB.out
            have := HNW.out.lt
            omega
          refine tr_oneL fun K hK => ?_
          simp only [sel, List.map_cons, List.map_nil, List.getD_cons_succ, List.getD_cons_zero]
          repeat (go_big_quiet_step (fail))
          refine wpQuiet_nil ?_
          go_wp2
          refine norm_up (hK _ _ (Lr_late (by decide) (HK5.out.mono fun x _ e => .inr e)) ?_)
          clear hK K c0 f0
          refine tr_lastL fun K hK => ?_
          simp only [sel, List.map_nil]
          refine wpQuiet_nil (hK _ ?_)
          clear hK K
          have HLE5 : Hid (wq.heap.size ≤ (x4.setCell ⟨d, 2, none⟩ (.slice (some ⟨g4, 0, none⟩) (k + 1) cap4)).heap.size) := by
            have h1 := HLE.out
            have h2 := HG1.out.size
            have h3 := HG2.out.size
            have h4 := HG3.out.size
            have h5 := HK4.out.size
            have h6 := HK5.out.size
            show wq.heap.size ≤ _
            omega
          generalize x4.setCell ⟨d, 2, none⟩ (.slice (some ⟨g4, 0, none⟩) (k + 1) cap4) = x5 at *
          go_wp2
          go_roundg (gk - 1)
          case measure => have := HG.out; have := HJ.out; omega
          case rel => exact ⟨k + 1, by have := HG.out; have := HJ.out; omega, by go_num, ⟨_, _, _, _, ⟨HBX.out, HT5.out, HRB6.out, HRB5.out, HNW.out.lt, HRS5.out⟩, HGE.out⟩, HLE5.out⟩
        · obtain rfl : k = N := by have := HG.out; omega
          clear hj
          obtain ⟨Ab, cb, rfl⟩ := os_form HNW.out.RB.out
          obtain ⟨Ah, ch, rfl⟩ := os_form HNW.out.RH.out
          have c0 := HNW.out.bx.cell 0
          have c1 := HNW.out.bx.cell 1
          have c2 := HNW.out.bx.cell 2
          simp only [List.getElem?_cons_zero, List.getElem?_cons_succ] at c0 c1 c2
          have hr := HNW.out.rs
          have t0 := hr.cell 0
          have t1 := hr.cell 1
          have t2 := hr.cell 2
          have tf := hr.frozen
          simp only [List.getElem?_cons_zero, List.getElem?_cons_succ] at t0 t1 t2
          clear hr
          go_wp2
          have hb5 := put3_blk (x := .slice (some ⟨gT, 0, none⟩) j j) (y := .slice Ab j cb) (u := .slice Ah k ch) HNW.out.rs
          have hk5 : Kept (fun x => x = B) wr (put3 wr B (.slice (some ⟨gT, 0, none⟩) j j) (.slice Ab j cb) (.slice Ah k ch)) := put3_kept wr B _ _ _ (fun x e => e)
          rw [HP.out]
          have hgood : MdM.Good (fresh j k) := good_fresh HNn.out.1 HNn.out.2 HNN.out.1 HNN.out.2
          have how : PmD.Own wr (fun y => w.heap.size ≤ y ∧ y ≠ B) (.agg #[.slice (some ⟨gT, 0, none⟩) j j, .slice Ab j cb, .slice Ah k ch]) (stOf (fresh j k)) := by
            have hb := HB.out
            have hlt := HNW.out.lt
            refine ⟨d, wq.heap.size, _, _, _, VB, VH, rfl, .inr ⟨gT, j, rfl, HNW.out.T, ⟨by omega, by omega⟩, hlt.2⟩, rs_mono HNW.out.RB fun y _ h => ⟨⟨⟨by omega, by omega⟩, by omega⟩, h.2⟩, rs_mono HNW.out.RH fun y _ h => ⟨⟨⟨by omega, by omega⟩, by omega⟩, h.2⟩⟩
          have hpa := ((how.kept hk5 fun y hk e => hk.2 e).patZ rfl hgood).mono (X := fun y => w.heap.size ≤ y) fun y _ h => h.1
          exact ret_st rfl rfl hb5 rfl ⟨_, rfl, hpa, HGR.out.then hk5 fun y hk e => by have e : y = B := e; have := HB.out; omega⟩
end
end Go.Proofs.YtbnkpnllgoghnaaGreat.PmN
