/-
  Package model: unpin, read, write. Written by wip/tools/genpmstep3.py.
-/
import Derived.Test.YtjdlpknflhgkfaaPmStep2
import Derived.Test.YtjdlpknflhgkfaaPmClone
namespace Go.Proofs.Ytjdlpknflhgkfaa.PmV
open Go.ChangeShapes Go.WideShapes Go.ChangeAt Go.RowKit
open Go.Proofs.Ytjdlpknflhgkfaa.Mem Go.Proofs.Ytjdlpknflhgkfaa.Blk Go.Proofs.Ytjdlpknflhgkfaa.Cells Go.Proofs.Ytjdlpknflhgkfaa.Orow Go.Proofs.Ytjdlpknflhgkfaa.GrC Go.Proofs.Ytjdlpknflhgkfaa.MdM Go.Proofs.Ytjdlpknflhgkfaa.MdC Go.Proofs.Ytjdlpknflhgkfaa.MdR Go.Proofs.Ytjdlpknflhgkfaa.MdD Go.Proofs.Ytjdlpknflhgkfaa.PmC Go.Proofs.Ytjdlpknflhgkfaa.PmI Go.Proofs.Ytjdlpknflhgkfaa.PmM Go.Proofs.Ytjdlpknflhgkfaa.PmP Go.Proofs.Ytjdlpknflhgkfaa.PmT Go.Proofs.Ytjdlpknflhgkfaa.PmU Go.Proofs.Ytjdlpknflhgkfaa.PmR Go.Proofs.Ytjdlpknflhgkfaa.PmK Go.Proofs.Ytjdlpknflhgkfaa.Stages Go.Proofs.Ytjdlpknflhgkfaa.Trees

theorem sizeU8 : (Try.prog.info? 5).map (·.size) = some 1 := by kernel_rfl
section
variable {w w0 w1 : World} {G F X : Nat → Prop} {v : Value} {gT cT gB cB gH cH r b c n u : Nat} {qb cb q cp : Nat → Nat} {a a' : Md} {k : Nat} {o : MdOp} {D A : Option Addr} {dl dc : Nat} {B zs : List Int}
theorem read_good {p : Nat} (h : fits o.o o.n) : a.read o.o o.n p = (⟨0, 0, 0, ((a.B p).drop o.o.toNat).take o.n.toNat⟩, a) := if_neg (by obtain ⟨h1, h2, h3⟩ := h; omega)
theorem read_bad {p : Nat} (h : ¬ fits o.o o.n) : a.read o.o o.n p = (err 6, a) := if_pos (by unfold fits at h; omega)
theorem write_good {p : Nat} (h : fits o.o (o.d.length : Int)) : a.write o.o o.d p = (err 0, a.putB p (MdM.splice (a.B p) o.o.toNat o.d)) := if_neg (by obtain ⟨h1, h2, h3⟩ := h; omega)
theorem write_bad {p : Nat} (h : ¬ fits o.o (o.d.length : Int)) : a.write o.o o.d p = (err 6, a) := if_pos (by unfold fits at h; omega)
/-- Where a row's slice begins, cut in front. -/
def cutA (b u c : Nat) : Addr := if c = u then ⟨b, 0, none⟩ else ⟨b, u, none⟩
theorem slice_row (b c u m : Nat) (h : u + m ≤ c) (w : World) : (Instr.sliceAt 23 (.slice (some ⟨b, 0, none⟩) 16 c) (some (.int .i64 (u : Int))) (some (.int .i64 ((u : Int) + (m : Int)))) none).run Try.prog w = .ok (.slice (some (cutA b u c)) m (c - u)) w := by
  obtain ⟨i0, hi, hz0, hz1, hz2⟩ := info_parts MdC.infoU8
  have hel : Try.prog.elem 23 = 5 := by kernel_rfl
  rw [run_sliceAt_slice _ _ _ _ _ _ (by rw [hel]; exact Try.underlying23), run_slice_lh w 23 _ _ _ (by rw [hel]; exact Try.underlying23) .i64 .i64 (u : Int) ((u : Int) + (m : Int)) (by omega) (by omega) (by omega)]
  rw [hel]
  simp only [sizeOf, typeInfo, Result.andThen, sliced, Sem.run_bind, Int.toNat_natCast]
  rw [show ((u : Int) + (m : Int)).toNat = u + m by omega]
  unfold cutA
  by_cases e : c = u
  · simp [e, hi, hz1] <;> omega
  · simp [e, hi, hz1, add_off]
theorem slice_from (b c u : Nat) (h : u ≤ 16) (w : World) : (Instr.sliceAt 23 (.slice (some ⟨b, 0, none⟩) 16 c) (some (.int .i64 (u : Int))) none none).run Try.prog w = .ok (.slice (some (cutA b u c)) (16 - u) (c - u)) w := by
  obtain ⟨i0, hi, hz0, hz1, hz2⟩ := info_parts MdC.infoU8
  have hel : Try.prog.elem 23 = 5 := by kernel_rfl
  rw [run_sliceAt_slice _ _ _ _ _ _ (by rw [hel]; exact Try.underlying23), run_slice_l w 23 _ _ _ (by rw [hel]; exact Try.underlying23) .i64 (u : Int) (by omega) (by omega)]
  rw [hel]
  simp only [sizeOf, typeInfo, Result.andThen, sliced, Sem.run_bind, Int.toNat_natCast]
  unfold cutA
  by_cases e : c = u
  · simp [e, hi, hz1]
  · simp [e, hi, hz1, add_off]
theorem sl_cut {m : Nat} (h : OR w b 5 1 c 16 (ucell B)) (hl : B.length = 16) (hc : 16 ≤ c) (hum : u + m ≤ 16) : Sl w w.heap.size .u8 (some (cutA b u c)) m ((B.drop u).take m) := by
  refine ⟨by rw [List.length_take, List.length_drop, hl]; omega, fun hm => ⟨b, u, ?_, h.lt, fun j hj => ?_⟩⟩
  · unfold cutA
    rw [if_neg (by omega)]
  · rw [h.cell (by omega)]
    unfold ucell
    simp [List.getD_eq_getElem?_getD, hj]
theorem splice_cell {d : List Int} (hl : B.length = 16) (h : u + d.length ≤ 16) {j : Nat} (_hj : j < 16) : (MdM.splice B u d).getD j 0 = if u ≤ j ∧ j < u + d.length then d.getD (j - u) 0 else B.getD j 0 := by
  unfold MdM.splice
  simp only [List.getD_eq_getElem?_getD]
  have h1 : (B.take u).length = u := by rw [List.length_take, hl]; omega
  by_cases e1 : j < u
  · rw [if_neg (by omega), List.append_assoc, List.getElem?_append_left (by omega), List.getElem?_take, if_pos e1]
  · by_cases e2 : j < u + d.length
    · rw [if_pos (by omega), List.append_assoc, List.getElem?_append_right (by omega), h1, List.getElem?_append_left (by omega)]
    · rw [if_neg (by omega), List.append_assoc, List.getElem?_append_right (by omega), h1, List.getElem?_append_right (by omega), List.getElem?_drop]
      congr 2
      omega
theorem copy_body (h : OR w b 5 1 c 16 (ucell B)) (hc : 16 ≤ c) (hl : B.length = 16) (hs : Sl w w.heap.size .u8 A n zs) (hun : u + n ≤ 16) (cc : Nat) :
    ∃ w', (∀ ty, (Builtin.copy_ #[23, 23] ty #[.slice (some (cutA b u c)) (16 - u) (c - u), .slice A n cc]).run Try.prog w = .ok (.int .i64 (n : Int)) w') ∧ OR w' b 5 1 c 16 (ucell (MdM.splice B u zs)) ∧ Kept (· = b) w w' := by
  have hz := hs.len
  rcases Nat.eq_zero_or_pos n with h0 | h0
  · refine ⟨w, fun ty => ?_, h.congr fun i hi => ?_, Kept.refl _ _⟩
    · subst h0
      exact run_copy_none w 23 23 ty 5 _ A _ _ 0 cc Try.underlying23 sizeU8 (by simp)
    · unfold ucell
      rw [splice_cell hl (by omega) (by omega), if_neg (by omega)]
  · obtain ⟨b', off, rfl, _, hcell⟩ := hs.at_ h0
    have hcu : cutA b u c = ⟨b, u, none⟩ := if_neg (by omega)
    rw [hcu]
    have hlen : ((List.range n).map (ucell zs)).length = n := by simp
    have hr := fun ty => run_copy_cells (P := Try.prog) w 23 23 ty 5 b u (16 - u) (c - u) ⟨b', off, none⟩ n cc ((List.range n).map (ucell zs)) Try.underlying23 sizeU8 (by rw [hlen]; simp only [Nat.min_def]; split <;> omega) (fun j v hj => by
        have hjm : j < n := by
          have := (List.getElem?_eq_some_iff.1 hj).1
          simpa using this
        rw [add_off, hcell j hjm, ← hj]
        simp [hjm, ucell]) (fun j hj => by rw [hlen] at hj; rw [h.cell (by omega)]; rfl) (fun j _ => h.frozen _) (fun v hv => by
        obtain ⟨j, hj, rfl⟩ := List.mem_map.1 hv
        rfl)
    rw [hlen] at hr
    refine ⟨_, hr, (OR.stretch ((List.range n).map (ucell zs)) u h).congr fun i hi => ?_, GsC.kept_setCells _ _ _ _⟩
    rw [hlen]
    show _ = Value.int .u8 ((MdM.splice B u zs).getD i 0)
    rw [splice_cell hl (by omega) (by omega), hz]
    by_cases e : u ≤ i ∧ i < u + n
    · rw [if_pos e, if_pos e]
      simp [List.getD_eq_getElem?_getD, show i - u < n by omega, ucell]
    · rw [if_neg e, if_neg e]
      rfl
/-- A state's box, a call's and a result's, laid at the head of a call. -/
structure Fr2 (w w0 : World) (s : Nat) (gT cT gB cB gH cH : Nat) (a : Md) (o : MdOp) (D : Option Addr) (dl dc : Nat) : Prop where
  sb : Blk w0 s 39 [.slice (some ⟨gT, 0, none⟩) a.n cT, .slice (some ⟨gB, 0, none⟩) a.n cB, .slice (some ⟨gH, 0, none⟩) a.N cH]
  ob : Blk w0 (s + 1) 25 [.int .i64 o.k, .int .i64 o.p, .int .i64 o.h, .int .i64 o.o, .int .i64 o.n, .slice D dl dc]
  rb : Blk w0 (s + 1 + 1) 27 [.int .i64 0, .int .i64 0, .int .i64 0, .slice none 0 0]
  gr : Grow w w0
  sz : s = w.heap.size
theorem fr2_new (w : World) (gT cT gB cB gH cH : Nat) (a : Md) (o : MdOp) (D : Option Addr) (dl dc : Nat) : Fr2 w (((w.alloc (.cells #[.slice (some ⟨gT, 0, none⟩) a.n cT, .slice (some ⟨gB, 0, none⟩) a.n cB, .slice (some ⟨gH, 0, none⟩) a.N cH] 39)).alloc (.cells #[.int .i64 o.k, .int .i64 o.p, .int .i64 o.h, .int .i64 o.o, .int .i64 o.n, .slice D dl dc] 25)).alloc (.cells #[.int .i64 0, .int .i64 0, .int .i64 0, .slice none 0 0] 27)) w.heap.size gT cT gB cB gH cH a o D dl dc := by
  have b1 := Blk.new w 39 [.slice (some ⟨gT, 0, none⟩) a.n cT, .slice (some ⟨gB, 0, none⟩) a.n cB, .slice (some ⟨gH, 0, none⟩) a.N cH]
  have g1 : Grow w (w.alloc (.cells #[.slice (some ⟨gT, 0, none⟩) a.n cT, .slice (some ⟨gB, 0, none⟩) a.n cB, .slice (some ⟨gH, 0, none⟩) a.N cH] 39)) := (Kept.refl _ _).alloc _
  have z1 : (w.alloc (.cells #[.slice (some ⟨gT, 0, none⟩) a.n cT, .slice (some ⟨gB, 0, none⟩) a.n cB, .slice (some ⟨gH, 0, none⟩) a.N cH] 39)).heap.size = w.heap.size + 1 := by simp
  generalize w.alloc (.cells #[.slice (some ⟨gT, 0, none⟩) a.n cT, .slice (some ⟨gB, 0, none⟩) a.n cB, .slice (some ⟨gH, 0, none⟩) a.N cH] 39) = u1 at *
  have b2 := Blk.new u1 25 [.int .i64 o.k, .int .i64 o.p, .int .i64 o.h, .int .i64 o.o, .int .i64 o.n, .slice D dl dc]
  have g2 : Grow u1 (u1.alloc (.cells #[.int .i64 o.k, .int .i64 o.p, .int .i64 o.h, .int .i64 o.o, .int .i64 o.n, .slice D dl dc] 25)) := (Kept.refl _ _).alloc _
  have z2 : (u1.alloc (.cells #[.int .i64 o.k, .int .i64 o.p, .int .i64 o.h, .int .i64 o.o, .int .i64 o.n, .slice D dl dc] 25)).heap.size = w.heap.size + 1 + 1 := by simp [z1]
  rw [z1] at b2
  generalize u1.alloc (.cells #[.int .i64 o.k, .int .i64 o.p, .int .i64 o.h, .int .i64 o.o, .int .i64 o.n, .slice D dl dc] 25) = u2 at *
  have b3 := Blk.new u2 27 [.int .i64 0, .int .i64 0, .int .i64 0, .slice none 0 0]
  have g3 : Grow u2 (u2.alloc (.cells #[.int .i64 0, .int .i64 0, .int .i64 0, .slice none 0 0] 27)) := (Kept.refl _ _).alloc _
  rw [z2] at b3
  exact ⟨(b1.grow g2).grow g3, b2.grow g3, b3, (g1.trans g2).trans g3, rfl⟩
section
variable {s : Nat} (H : Fr2 w w0 s gT cT gB cB gH cH a o D dl dc)
include H
theorem Fr2.s0 : w0.cell? ⟨s, 0, none⟩ = some (.slice (some ⟨gT, 0, none⟩) a.n cT) := H.sb.cell 0
theorem Fr2.s1 : w0.cell? ⟨s, 1, none⟩ = some (.slice (some ⟨gB, 0, none⟩) a.n cB) := H.sb.cell 1
theorem Fr2.o0 : w0.cell? ⟨s + 1, 0, none⟩ = some (.int .i64 o.k) := H.ob.cell 0
theorem Fr2.o1 : w0.cell? ⟨s + 1, 1, none⟩ = some (.int .i64 o.p) := H.ob.cell 1
theorem Fr2.o2 : w0.cell? ⟨s + 1, 2, none⟩ = some (.int .i64 o.h) := H.ob.cell 2
theorem Fr2.o3 : w0.cell? ⟨s + 1, 3, none⟩ = some (.int .i64 o.o) := H.ob.cell 3
theorem Fr2.o4 : w0.cell? ⟨s + 1, 4, none⟩ = some (.int .i64 o.n) := H.ob.cell 4
theorem Fr2.o5 : w0.cell? ⟨s + 1, 5, none⟩ = some (.slice D dl dc) := H.ob.cell 5
theorem Fr2.resK (hlt : ∀ k, G k → k < w.heap.size) (hk : Kept G w0 w1) : w1.cell? ⟨s + 1 + 1, 0, none⟩ = some (.int .i64 0) ∧ w1.cell? ⟨s + 1 + 1, 1, none⟩ = some (.int .i64 0) ∧ w1.cell? ⟨s + 1 + 1, 2, none⟩ = some (.int .i64 0) ∧ w1.cell? ⟨s + 1 + 1, 3, none⟩ = some (.slice none 0 0) ∧ ∀ j, w1.frozen? ⟨s + 1 + 1, j, none⟩ = false := by
  have hz := H.sz
  have hb := H.rb.kept hk fun x => by have := hlt _ x; omega
  exact ⟨hb.cell 0, hb.cell 1, hb.cell 2, hb.cell 3, hb.frozen⟩
theorem Fr2.fin (hlt : ∀ k, G k → k < w.heap.size) (hk : Kept G w0 w1) (hs : PAt w1 G v a') (c p h : Int) :
    Blk (put4 w1 (s + 1 + 1) (.int .i64 c) (.int .i64 p) (.int .i64 h) (.slice none 0 0)) (s + 1 + 1) 27 [.int .i64 c, .int .i64 p, .int .i64 h, .slice none 0 0] ∧
    PPost G v w (⟨c, p, h, []⟩, a') (.returned (.agg #[.int .i64 c, .int .i64 p, .int .i64 h, .slice none 0 0])) (put4 w1 (s + 1 + 1) (.int .i64 c) (.int .i64 p) (.int .i64 h) (.slice none 0 0)) := by
  have hz := H.sz
  exact fin_p hlt (H.rb.kept hk fun x => by have := hlt _ x; omega) (by omega) hs (H.gr.kept.trans hk) c p h
theorem Fr2.finD {A : Option Addr} {n cap : Nat} {zs : List Int} (hlt : ∀ k, G k → k < w.heap.size) (hk : Grow w0 w1) (hs : PAt w1 G v a') (hz : Sl w1 w1.heap.size .u8 A n zs) (hA : 0 < n → ∀ x, A = some x → w.heap.size ≤ x.block ∧ x.block ≠ s + 1 + 1) (hf : Fz w1 A n) :
    Blk (put4 w1 (s + 1 + 1) (.int .i64 0) (.int .i64 0) (.int .i64 0) (.slice A n cap)) (s + 1 + 1) 27 [.int .i64 0, .int .i64 0, .int .i64 0, .slice A n cap] ∧
    PPost G v w (⟨0, 0, 0, zs⟩, a') (.returned (.agg #[.int .i64 0, .int .i64 0, .int .i64 0, .slice A n cap])) (put4 w1 (s + 1 + 1) (.int .i64 0) (.int .i64 0) (.int .i64 0) (.slice A n cap)) := by
  have hsz := H.sz
  exact fin_d hlt (H.rb.grow hk) (by omega) hs (Grow.kept (H.gr.trans hk)) hz hA hf
end
set_option maxHeartbeats 4000000 in
theorem unpin_any (h : St0 w G gT cT gB cB gH cH qb cb q cp a) (hk : k < a.N) (hh : Int) : Calls Try.prog 71 #[.slice (some ⟨q k, 0, none⟩) 6 (cp k), .int .i64 hh] w (PPost G (sval gT cT gB cB gH cH a) w (a.onHand (k : Int) hh fun _ => (err 0, a.putH (k : Int).toNat hh.toNat (-1)))) := by
  have HK := Lib.hid hk
  have HS := Lib.hid h
  have hb0 := Blk.new w 27 [.int .i64 0, .int .i64 0, .int .i64 0, .slice none 0 0]
  have hg0 : Grow w (w.alloc (.cells #[.int .i64 0, .int .i64 0, .int .i64 0, .slice none 0 0] 27)) := (Kept.refl _ _).alloc _
  obtain ⟨P, hP⟩ : ∃ P, P = PPost G (sval gT cT gB cB gH cH a) w (a.onHand (k : Int) hh fun _ => (err 0, a.putH (k : Int).toNat hh.toNat (-1))) := ⟨_, rfl⟩
  have HP := Lib.hid hP
  rw [← hP]
  have HB0 := Lib.hid hb0
  have HG0 := Lib.hid hg0
  have HRS := Lib.hid fun (w1 : World) (hk : Kept G (w.alloc (.cells #[.int .i64 0, .int .i64 0, .int .i64 0, .slice none 0 0] 27)) w1) => HB0.out.kept hk fun (x : G w.heap.size) => absurd (HS.out.lt _ x) (Nat.lt_irrefl _)
  clear h hk hP hb0 hg0
  go_enter Try.func71, Try.ntmps71
  go_upto_region 1 with (fail)
  generalize w.alloc (.cells #[.int .i64 0, .int .i64 0, .int .i64 0, .slice none 0 0] 27) = w0 at *
  obtain ⟨s, hs⟩ : ∃ s, s = w.heap.size := ⟨_, rfl⟩
  rw [← hs] at HB0 HRS ⊢
  have HSZ := Lib.hid hs
  clear hs
  have HPM := Lib.hid (HS.out.pm.kept HG0.out fun _ _ x => x)
  have HPO := Lib.hid (pageOf_any (HPM.out.rb k HK.out) hh)
  rw [pg_held HK.out] at HPO
  rcases held_cases HS.out.good (k : Int) hh with he | ⟨k', j, p, e1, rfl, _, hj, he, hkj, hp, hT⟩
  · rw [onHand_bad he] at HP
    rw [he] at HPO
    clear he
    go_wp2_with (first
      | (go_at_call 95; (with_reducible refine HPO.out.mono ?_); rintro e w' ⟨rfl, rfl⟩)
      | (go_at_call 42; (with_reducible refine (code_any _ 5).mono ?_); rintro e wc ⟨rfl, hgc⟩; have HGC : Hid (Grow w0 wc) := hgc; clear hgc; have hrb := HRS.out _ (Grow.kept HGC.out); have t0 := hrb.cell 0; have t1 := hrb.cell 1; have t2 := hrb.cell 2; have t3 := hrb.cell 3; have tf := hrb.frozen; clear hrb; simp only [List.getElem?_cons_zero, List.getElem?_cons_succ] at t0 t1 t2 t3))
    rw [HP.out]
    have hfin := fin_p HS.out.lt (HRS.out _ (Grow.kept HGC.out)) (Nat.le_of_eq HSZ.out.symm) (HS.out.at_.grow (HG0.out.trans HGC.out)) (Grow.kept (HG0.out.trans HGC.out)) 5 0 0
    exact ret_res rfl rfl hfin.1 rfl hfin.2
  · have : k' = k := by omega
    subst this
    rw [onHand_good he, Int.toNat_natCast, Int.toNat_natCast] at HP
    rw [he] at HPO
    have hp1 : ((p : Int) == -1) = false := by simp <;> omega
    have r1 := hcell_get (HPM.out.rb k' HK.out) hj
    have f1 := (HPM.out.rb k' HK.out).frozen j
    rw [hkj] at r1
    have HS2 := Lib.hid (HPM.out.putH HK.out j (-1))
    have HK2 : Hid (Kept G w0 (w0.setCell ⟨q k', j, none⟩ (.int .i64 (-1)))) := (kept_set w0 (q k') j _).mono fun x _ e => by rw [e]; exact HPM.out.qG k' HK.out
    have HGN := Lib.hid (HS.out.good.putH k' j (p := -1) (.inl rfl))
    have hjz : (j : Int) < 6 := by omega
    clear he hkj hp hT hj e1
    go_upto_region 4 with (go_at_call 95; (with_reducible refine HPO.out.mono ?_); rintro e w' ⟨rfl, rfl⟩)
    clear r1 f1
    generalize w0.setCell ⟨q k', j, none⟩ (.int .i64 (-1)) = w3 at HS2 HK2 ⊢
    go_wp2_with (go_at_call 42; (with_reducible refine (code_any _ 0).mono ?_); rintro e wc ⟨rfl, hgc⟩; have HKC : Hid (Kept G w0 wc) := HK2.out.trans (Grow.kept hgc); have HGC := Lib.hid hgc; clear hgc; have hrb := HRS.out _ HKC.out; have t0 := hrb.cell 0; have t1 := hrb.cell 1; have t2 := hrb.cell 2; have t3 := hrb.cell 3; have tf := hrb.frozen; clear hrb; simp only [List.getElem?_cons_zero, List.getElem?_cons_succ] at t0 t1 t2 t3)
    rw [HP.out]
    have hfin := fin_p HS.out.lt (HRS.out _ HKC.out) (Nat.le_of_eq HSZ.out.symm) (PAt.grow ⟨HGN.out, gT, cT, gB, cB, gH, cH, qb, cb, q, cp, rfl, HS2.out⟩ HGC.out) ((Grow.kept HG0.out).trans HKC.out) 0 0 0
    exact ret_res rfl rfl hfin.1 rfl hfin.2
set_option maxHeartbeats 8000000 in
theorem read_any (h : St0 w G gT cT gB cB gH cH qb cb q cp a) (hk : k < a.N) (h63 : o.o ≤ 9223372036854775807) (hd : Sl w w.heap.size .u8 D dl o.d) : Calls Try.prog 69 #[sval gT cT gB cB gH cH a, .slice (some ⟨q k, 0, none⟩) 6 (cp k), .agg #[.int .i64 o.k, .int .i64 o.p, .int .i64 o.h, .int .i64 o.o, .int .i64 o.n, .slice D dl dc]] w (PPost G (sval gT cT gB cB gH cH a) w (a.onHand (k : Int) o.h (a.read o.o o.n))) := by
  have HK := Lib.hid hk
  have HS := Lib.hid h
  have HF := Lib.hid (fr2_new w gT cT gB cB gH cH a o D dl dc)
  obtain ⟨P, hP⟩ : ∃ P, P = PPost G (sval gT cT gB cB gH cH a) w (a.onHand (k : Int) o.h (a.read o.o o.n)) := ⟨_, rfl⟩
  have HP := Lib.hid hP
  have HD := Lib.hid hd
  have HDL := Lib.hid hd.len
  rw [← hP]
  clear h hk hP hd
  unfold sval
  go_enter Try.func69, Try.ntmps69
  go_upto_region 1 with (fail)
  generalize ((w.alloc (.cells #[.slice (some ⟨gT, 0, none⟩) a.n cT, .slice (some ⟨gB, 0, none⟩) a.n cB, .slice (some ⟨gH, 0, none⟩) a.N cH] 39)).alloc (.cells #[.int .i64 o.k, .int .i64 o.p, .int .i64 o.h, .int .i64 o.o, .int .i64 o.n, .slice D dl dc] 25)).alloc (.cells #[.int .i64 0, .int .i64 0, .int .i64 0, .slice none 0 0] 27) = w0 at *
  obtain ⟨s, hs⟩ : ∃ s, s = w.heap.size := ⟨_, rfl⟩
  rw [← hs] at HF ⊢
  have HSZ := Lib.hid hs
  clear hs
  have HPM := Lib.hid (HS.out.pm.kept HF.out.gr fun _ _ x => x)
  have HRE := Lib.hid fun (w' : World) (hk : Grow w0 w') => reach_any (x := o) (D := .slice D dl dc) ((HPM.out.rb k HK.out).kept hk id) h63 o.n
  rw [pg_held HK.out] at HRE
  have s1 := HF.out.s1
  have o0 := HF.out.o0
  have o1 := HF.out.o1
  have o2 := HF.out.o2
  have o3 := HF.out.o3
  have o4 := HF.out.o4
  have o5 := HF.out.o5
  clear h63
  rcases held_cases HS.out.good (k : Int) o.h with hh | ⟨k', j', p, e1', e2', hk', hj', hh, hkj', hp, hT⟩
  · rw [onHand_bad hh] at HP
    rw [show reach (a.held (k : Int) o.h) o.o o.n = (-1, 5) from if_pos hh] at HRE
    clear hh
    go_wp2_with (first
      | (go_at_call 93; (with_reducible refine (HRE.out _ (Kept.refl _ _)).mono ?_); rintro e wf ⟨rfl, hgf⟩; have HGF : Hid (Grow w0 wf) := hgf; have s1 := hgf.cellN s1 id; have o3 := hgf.cellN o3 id; have o4 := hgf.cellN o4 id; have o5 := hgf.cellN o5 id; clear hgf)
      | (go_at_call 42; (with_reducible refine (code_any _ 5).mono ?_); rintro e wc ⟨rfl, hgc⟩; have HGC : Hid (Grow w0 wc) := HGF.out.trans hgc; clear hgc; obtain ⟨t0, t1, t2, t3, tf⟩ := HF.out.resK (G := G) HS.out.lt (Grow.kept HGC.out)))
    rw [HP.out]
    have hfin := HF.out.fin HS.out.lt (Grow.kept HGC.out) (HS.out.at_.grow (HF.out.gr.trans HGC.out)) 5 0 0
    exact ret_res rfl rfl hfin.1 rfl hfin.2
  · clear e1' e2' hk' hj' hkj'
    rw [onHand_good hh] at HP
    have hpz : (p : Int) < (a.n : Int) := by omega
    have HPN := Lib.hid hp
    have HT := Lib.hid hT
    by_cases hf : fits o.o o.n
    · rw [show reach (a.held (k : Int) o.h) o.o o.n = ((p : Int), 0) from by unfold reach; rw [if_neg (by omega), if_neg (fun x => x hf), hh]] at HRE
      rw [read_good hf] at HP
      clear hh hp hT
      obtain ⟨u, hu⟩ := Int.eq_ofNat_of_zero_le hf.1
      obtain ⟨m, hm⟩ := Int.eq_ofNat_of_zero_le hf.2.1
      have hum : u + m ≤ 16 := by have := hf.2.2; omega
      rw [hu, hm, Int.toNat_natCast, Int.toNat_natCast] at HP
      rw [hu] at o3 HRE
      rw [hm] at o4 HRE
      have HUM := Lib.hid hum
      have hcb : 16 ≤ cb p := (HPM.out.br p HPN.out).le.1
      have hsl := slice_row (qb p) (cb p) u m (by omega)
      have hwr : IntKind.i64.wrap ((u : Int) + (m : Int)) = (u : Int) + (m : Int) := IntWalk.i64_in _ (by omega)
      have hl16 := HS.out.good.len p
      have HSL : Hid (∀ w', Kept (fun x => x = s + 1 + 1) w0 w' → Sl w' w'.heap.size .u8 (some (cutA (qb p) u (cb p))) m (((a.B p).drop u).take m)) := fun w' hk => sl_cut ((HPM.out.br p HPN.out).kept hk fun e => by have e : qb p = s + 1 + 1 := e; have := HS.out.lt _ (HPM.out.bG p HPN.out); have := HSZ.out; omega) hl16 hcb hum
      clear hf hu hm hum hcb hl16
      go_upto_region 4 with (go_at_call 93; (with_reducible refine (HRE.out _ (Kept.refl _ _)).mono ?_); rintro e wf ⟨rfl, hgf⟩; have HGF : Hid (Grow w0 wf) := hgf; have s1 := hgf.cellN s1 id; have o3 := hgf.cellN o3 id; have o4 := hgf.cellN o4 id; have o5 := hgf.cellN o5 id; clear hgf)
      have HNE := Lib.hid (HS.out.lt _ HPM.out.inG.2.1)
      have r2 := HPM.out.bb.cell (i := p) (by have := HPN.out; show p < a.n * 1; omega)
      unfold bsl at r2
      have r2 := HGF.out.cellN r2 id
      have hgd : Grow w0 wf.drew := HGF.out.drew
      have HGD := Lib.hid hgd
      have q0 := up_cell (F := fun x => x = s + 1 + 1) (w := wf.drew) (p := ⟨s, 1, none⟩) s1 (fun e => by have e : s = s + 1 + 1 := e; omega)
      have q1 := up_cell (F := fun x => x = s + 1 + 1) (w := wf.drew) (p := ⟨s + 1, 3, none⟩) o3 (fun e => by have e : s + 1 = s + 1 + 1 := e; omega)
      have q2 := up_cell (F := fun x => x = s + 1 + 1) (w := wf.drew) (p := ⟨s + 1, 4, none⟩) o4 (fun e => by have e : s + 1 = s + 1 + 1 := e; omega)
      have q3 := up_cell (F := fun x => x = s + 1 + 1) (w := wf.drew) (p := ⟨gB, p, none⟩) r2 (fun e => by have e : gB = s + 1 + 1 := e; have := HNE.out; have := HSZ.out; omega)
      have q4 := up_run (F := fun x => x = s + 1 + 1) (P := Try.prog) (w := wf.drew) fun w' _ => hsl w'
      refine wp_region_stages (Kept (fun x => x = s + 1 + 1)) (kept_refl _) (kept_trans _) [([0, 1, 2, 3, 4, 5, 6, 7, 8, 9, 10, 11, 12], 13), ([14], 15)] [] (by kernel_rfl) (by kernel_rfl) ?_
      simp only [selSt, sel, List.map_cons, List.map_nil, List.getD_cons_succ, List.getD_cons_zero]
      refine st_cons fun K1 hK1 => ?_
      repeat (go_big_quiet_step (fail))
      refine wpQuiet_nil ?_
      clear q0 q1 q2 q3 q4 hsl hwr
      have HCL := Lib.hid (bytes_clone (HSL.out _ (Grow.kept HGD.out)) (cb p - u) (by have := HUM.out; omega))
      go_wp2_with (go_at_call 94; (with_reducible refine HCL.out.mono ?_); rintro e wc ⟨⟨x, rfl, hx⟩, hgc⟩; obtain ⟨Ax, cx, rfl, hxs⟩ := os_sl hx (HSL.out _ (Grow.kept HGD.out)).len; have HX := Lib.hid hx; have HXS := Lib.hid hxs; have HGC := Lib.hid hgc; clear hx hxs hgc)
      refine norm_up (hK1 _ _ (Grow.kept HGC.out) ?_)
      clear hK1 K1 HCL
      have HGE : Hid (Grow w0 wc) := HGD.out.trans HGC.out
      obtain ⟨t0, t1, t2, t3, tf⟩ := HF.out.resK (G := G) HS.out.lt (Grow.kept HGE.out)
      refine st_cons fun K2 hK2 => ?_
      repeat (go_big_quiet_step (fail))
      refine wpQuiet_nil ?_
      go_wp2
      refine norm_up (hK2 _ _ (put4_kept _ _ _ _ _ _) (st_nil fun K3 hK3 => wpQuiet_nil (hK3 _ ?_)))
      clear hK2 K2 hK3 K3
      go_wp2
      rw [HP.out]
      have hfin := HF.out.finD (cap := cx) HS.out.lt HGE.out (HS.out.at_.grow (HF.out.gr.trans HGE.out)) HXS.out (fun hn x e => by
        have h1 : wf.drew.heap.size ≤ x.block := (PmR.os_in HX.out (k := x.block) (by rw [e]; rfl)).1
        have h2 := HF.out.rb.lt
        have h3 := HGD.out.size
        have h4 := HSZ.out
        omega) (fun hn x e j => by
        obtain ⟨gg, cg, eg, hog, _⟩ := HX.out.form hn
        injection eg with eg
        rw [eg] at e
        injection e with e
        rw [← e]
        exact hog.frozen j)
      exact ret_res rfl rfl hfin.1 rfl hfin.2
    · rw [show reach (a.held (k : Int) o.h) o.o o.n = (-1, 6) from by unfold reach; rw [if_neg (by omega), if_pos hf]] at HRE
      rw [read_bad hf] at HP
      clear hh hp hT hf
      go_wp2_with (first
        | (go_at_call 93; (with_reducible refine (HRE.out _ (Kept.refl _ _)).mono ?_); rintro e wf ⟨rfl, hgf⟩; have HGF : Hid (Grow w0 wf) := hgf; have s1 := hgf.cellN s1 id; have o3 := hgf.cellN o3 id; have o4 := hgf.cellN o4 id; have o5 := hgf.cellN o5 id; clear hgf)
        | (go_at_call 42; (with_reducible refine (code_any _ 6).mono ?_); rintro e wc ⟨rfl, hgc⟩; have HGC : Hid (Grow w0 wc) := HGF.out.trans hgc; clear hgc; obtain ⟨t0, t1, t2, t3, tf⟩ := HF.out.resK (G := G) HS.out.lt (Grow.kept HGC.out)))
      rw [HP.out]
      have hfin := HF.out.fin HS.out.lt (Grow.kept HGC.out) (HS.out.at_.grow (HF.out.gr.trans HGC.out)) 6 0 0
      exact ret_res rfl rfl hfin.1 rfl hfin.2
set_option maxHeartbeats 8000000 in
theorem write_any (h : St0 w G gT cT gB cB gH cH qb cb q cp a) (hk : k < a.N) (h63 : o.o ≤ 9223372036854775807) (hd : Sl w w.heap.size .u8 D dl o.d) (hby : Bytes o.d) : Calls Try.prog 70 #[sval gT cT gB cB gH cH a, .slice (some ⟨q k, 0, none⟩) 6 (cp k), .agg #[.int .i64 o.k, .int .i64 o.p, .int .i64 o.h, .int .i64 o.o, .int .i64 o.n, .slice D dl dc]] w (PPost G (sval gT cT gB cB gH cH a) w (a.onHand (k : Int) o.h (a.write o.o o.d))) := by
  have HK := Lib.hid hk
  have HS := Lib.hid h
  have HF := Lib.hid (fr2_new w gT cT gB cB gH cH a o D dl dc)
  obtain ⟨P, hP⟩ : ∃ P, P = PPost G (sval gT cT gB cB gH cH a) w (a.onHand (k : Int) o.h (a.write o.o o.d)) := ⟨_, rfl⟩
  have HP := Lib.hid hP
  have HD := Lib.hid hd
  have HDL := Lib.hid hd.len
  rw [← hP]
  have HBY := Lib.hid hby
  clear h hk hP hd hby
  unfold sval
  go_enter Try.func70, Try.ntmps70
  go_upto_region 1 with (fail)
  generalize ((w.alloc (.cells #[.slice (some ⟨gT, 0, none⟩) a.n cT, .slice (some ⟨gB, 0, none⟩) a.n cB, .slice (some ⟨gH, 0, none⟩) a.N cH] 39)).alloc (.cells #[.int .i64 o.k, .int .i64 o.p, .int .i64 o.h, .int .i64 o.o, .int .i64 o.n, .slice D dl dc] 25)).alloc (.cells #[.int .i64 0, .int .i64 0, .int .i64 0, .slice none 0 0] 27) = w0 at *
  obtain ⟨s, hs⟩ : ∃ s, s = w.heap.size := ⟨_, rfl⟩
  rw [← hs] at HF ⊢
  have HSZ := Lib.hid hs
  clear hs
  have HPM := Lib.hid (HS.out.pm.kept HF.out.gr fun _ _ x => x)
  have HRE := Lib.hid fun (w' : World) (hk : Grow w0 w') => reach_any (x := o) (D := .slice D dl dc) ((HPM.out.rb k HK.out).kept hk id) h63 (dl : Int)
  rw [pg_held HK.out] at HRE
  have s1 := HF.out.s1
  have o0 := HF.out.o0
  have o1 := HF.out.o1
  have o2 := HF.out.o2
  have o3 := HF.out.o3
  have o4 := HF.out.o4
  have o5 := HF.out.o5
  clear h63
  rcases held_cases HS.out.good (k : Int) o.h with hh | ⟨k', j', p, e1', e2', hk', hj', hh, hkj', hp, hT⟩
  · rw [onHand_bad hh] at HP
    rw [show reach (a.held (k : Int) o.h) o.o (dl : Int) = (-1, 5) from if_pos hh] at HRE
    clear hh
    go_wp2_with (first
      | (go_at_call 93; (with_reducible refine (HRE.out _ (Kept.refl _ _)).mono ?_); rintro e wf ⟨rfl, hgf⟩; have HGF : Hid (Grow w0 wf) := hgf; have s1 := hgf.cellN s1 id; have o3 := hgf.cellN o3 id; have o4 := hgf.cellN o4 id; have o5 := hgf.cellN o5 id; clear hgf)
      | (go_at_call 42; (with_reducible refine (code_any _ 5).mono ?_); rintro e wc ⟨rfl, hgc⟩; have HGC : Hid (Grow w0 wc) := HGF.out.trans hgc; clear hgc; obtain ⟨t0, t1, t2, t3, tf⟩ := HF.out.resK (G := G) HS.out.lt (Grow.kept HGC.out)))
    rw [HP.out]
    have hfin := HF.out.fin HS.out.lt (Grow.kept HGC.out) (HS.out.at_.grow (HF.out.gr.trans HGC.out)) 5 0 0
    exact ret_res rfl rfl hfin.1 rfl hfin.2
  · clear e1' e2' hk' hj' hkj'
    rw [onHand_good hh] at HP
    have hpz : (p : Int) < (a.n : Int) := by omega
    have HPN := Lib.hid hp
    have HT := Lib.hid hT
    by_cases hf : fits o.o (dl : Int)
    · rw [show reach (a.held (k : Int) o.h) o.o (dl : Int) = ((p : Int), 0) from by unfold reach; rw [if_neg (by omega), if_neg (fun x => x hf), hh]] at HRE
      rw [write_good (by rw [HDL.out]; exact hf)] at HP
      clear hh hp hT
      obtain ⟨u, hu⟩ := Int.eq_ofNat_of_zero_le hf.1
      have hum : u + dl ≤ 16 := by have := hf.2.2; omega
      rw [hu, Int.toNat_natCast] at HP
      rw [hu] at o3 HRE
      have HUM := Lib.hid hum
      have hcb : 16 ≤ cb p := (HPM.out.br p HPN.out).le.1
      have hsl := slice_from (qb p) (cb p) u (by omega)
      have hl16 := HS.out.good.len p
      have HGN := Lib.hid (HS.out.good.putB (q := p) (b := MdM.splice (a.B p) u o.d) HT.out (splice_len (b := a.B p) (d := o.d) (o := u) hl16 (by rw [HDL.out]; exact hum)) (splice_bytes (HS.out.good.byt p) HBY.out))
      have HCP := Lib.hid fun (w' : World) (hk : Grow w0 w') => copy_body (A := D) (n := dl) (u := u) ((HPM.out.br p HPN.out).kept hk id) hcb hl16 ((Blk.Sl.kept HD.out (HF.out.gr.trans hk) (Nat.le_refl _) fun _ _ x => x).more (HF.out.gr.trans hk).size) (by omega) dc
      clear hf hu hum hcb hl16
      go_upto_region 4 with (go_at_call 93; (with_reducible refine (HRE.out _ (Kept.refl _ _)).mono ?_); rintro e wf ⟨rfl, hgf⟩; have HGF : Hid (Grow w0 wf) := hgf; have s1 := hgf.cellN s1 id; have o3 := hgf.cellN o3 id; have o4 := hgf.cellN o4 id; have o5 := hgf.cellN o5 id; clear hgf)
      have r2 := HPM.out.bb.cell (i := p) (by have := HPN.out; show p < a.n * 1; omega)
      unfold bsl at r2
      have r2 := HGF.out.cellN r2 id
      have hgd : Grow w0 wf.drew := HGF.out.drew
      have HGD := Lib.hid hgd
      have HNE : Hid (qb p < s ∧ gB ≠ qb p) := ⟨by rw [HSZ.out]; exact HS.out.lt _ (HPM.out.bG p HPN.out), fun e => (HPM.out.nb p HPN.out).2.1 e.symm⟩
      have q0 := up_cell (F := fun x => x = qb p) (w := wf.drew) (p := ⟨s, 1, none⟩) s1 (fun e => by have e : s = qb p := e; have := HNE.out.1; omega)
      have q1 := up_cell (F := fun x => x = qb p) (w := wf.drew) (p := ⟨s + 1, 3, none⟩) o3 (fun e => by have e : s + 1 = qb p := e; have := HNE.out.1; omega)
      have q2 := up_cell (F := fun x => x = qb p) (w := wf.drew) (p := ⟨s + 1, 5, none⟩) o5 (fun e => by have e : s + 1 = qb p := e; have := HNE.out.1; omega)
      have q3 := up_cell (F := fun x => x = qb p) (w := wf.drew) (p := ⟨gB, p, none⟩) r2 (fun e => HNE.out.2 e)
      have q4 := up_run (F := fun x => x = qb p) (P := Try.prog) (w := wf.drew) fun w' _ => hsl w'
      obtain ⟨w4, hr4, hb4, hk4⟩ := HCP.out _ HGD.out
      have HPM1 := Lib.hid (HPM.out.kept HGD.out fun _ _ x => x)
      have HS4 := Lib.hid (HPM1.out.body HPN.out hk4 hb4)
      have HK4 : Hid (Kept G w0 w4) := (Grow.kept HGD.out).trans (hk4.mono fun x _ e => by rw [e]; exact HPM1.out.bG p HPN.out)
      have HK5 := Lib.hid hk4
      clear hb4 hk4
      refine wp_region_stages (Kept (fun x => x = qb p)) (kept_refl _) (kept_trans _) [([0, 1, 2, 3, 4, 5, 6, 7, 8, 9], 10)] [] (by kernel_rfl) (by kernel_rfl) ?_
      simp only [selSt, sel, List.map_cons, List.map_nil, List.getD_cons_succ, List.getD_cons_zero]
      refine st_cons fun K hK => ?_
      repeat (go_big_quiet_step (fail))
      refine wpQuiet_nil ?_
      clear q0 q1 q2 q3 q4 hsl
      go_wp2
      refine norm_up (hK _ _ HK5.out (st_nil fun K3 hK3 => wpQuiet_nil (hK3 _ ?_)))
      clear hK K hK3 K3 hr4
      go_wp2_with (go_at_call 42; (with_reducible refine (code_any _ 0).mono ?_); rintro e wc ⟨rfl, hgc⟩; have HKC : Hid (Kept G w0 wc) := HK4.out.trans (Grow.kept hgc); have HGC := Lib.hid hgc; clear hgc; obtain ⟨t0, t1, t2, t3, tf⟩ := HF.out.resK (G := G) HS.out.lt HKC.out)
      rw [HP.out]
      have hfin := HF.out.fin HS.out.lt HKC.out (PAt.grow ⟨HGN.out, gT, cT, gB, cB, gH, cH, qb, cb, q, cp, rfl, HS4.out⟩ HGC.out) 0 0 0
      exact ret_res rfl rfl hfin.1 rfl hfin.2
    · rw [show reach (a.held (k : Int) o.h) o.o (dl : Int) = (-1, 6) from by unfold reach; rw [if_neg (by omega), if_pos hf]] at HRE
      rw [write_bad (by rw [HDL.out]; exact hf)] at HP
      clear hh hp hT hf
      go_wp2_with (first
        | (go_at_call 93; (with_reducible refine (HRE.out _ (Kept.refl _ _)).mono ?_); rintro e wf ⟨rfl, hgf⟩; have HGF : Hid (Grow w0 wf) := hgf; have s1 := hgf.cellN s1 id; have o3 := hgf.cellN o3 id; have o4 := hgf.cellN o4 id; have o5 := hgf.cellN o5 id; clear hgf)
        | (go_at_call 42; (with_reducible refine (code_any _ 6).mono ?_); rintro e wc ⟨rfl, hgc⟩; have HGC : Hid (Grow w0 wc) := HGF.out.trans hgc; clear hgc; obtain ⟨t0, t1, t2, t3, tf⟩ := HF.out.resK (G := G) HS.out.lt (Grow.kept HGC.out)))
      rw [HP.out]
      have hfin := HF.out.fin HS.out.lt (Grow.kept HGC.out) (HS.out.at_.grow (HF.out.gr.trans HGC.out)) 6 0 0
      exact ret_res rfl rfl hfin.1 rfl hfin.2
end
end Go.Proofs.Ytjdlpknflhgkfaa.PmV
