/-
  Package script: Op; the document's Op.
-/
import Derived.Test.YtigcjcgdakoonaaScRep
namespace Go.Proofs.Ytigcjcgdakoonaa.ScO
open Go.ChangeShapes Go.WideShapes Go.ChangeAt Go.RowKit
open Go.Proofs.Ytigcjcgdakoonaa.Mem Go.Proofs.Ytigcjcgdakoonaa.Blk Go.Proofs.Ytigcjcgdakoonaa.Cells Go.Proofs.Ytigcjcgdakoonaa.MdM Go.Proofs.Ytigcjcgdakoonaa.ScM Go.Proofs.Ytigcjcgdakoonaa.ScC Go.Proofs.Ytigcjcgdakoonaa.ScRp Go.Proofs.Ytigcjcgdakoonaa.Stages

/-- The cells of a call; its data stand where they are told. -/
abbrev opl (o : MdOp) (A : Option Addr) (n c : Nat) : List Value := [.int .i64 o.k, .int .i64 o.p, .int .i64 o.h, .int .i64 o.o, .int .i64 o.n, .slice A n c]
/-- Bytes that stand in blocks from B on, or none. -/
structure Dat (w : World) (B : Nat) (A : Option Addr) (n : Nat) (zs : List Int) : Prop where
  sl : Sl w w.heap.size .u8 A n zs
  byt : Bytes zs
  few : n ≤ 15
  new : 0 < n → ∀ y, A = some y → B ≤ y.block
section
variable {w w' : World} {B n c : Nat} {A : Option Addr} {zs : List Int} {F : Nat → Prop}
theorem Dat.nil (w : World) (B : Nat) (A : Option Addr) : Dat w B A 0 [] := ⟨Sl.nil _ _ _ _, (fun _ h => by cases h), Nat.zero_le _, fun h => absurd h (Nat.lt_irrefl 0)⟩
theorem Dat.kept (h : Dat w B A n zs) (hk : Kept F w w') (hF : ∀ k, k < w.heap.size → B ≤ k → ¬ F k) : Dat w' B A n zs := by
  refine ⟨⟨h.sl.1, fun hn => ?_⟩, h.byt, h.few, h.new⟩
  obtain ⟨b, off, e, hb, hc⟩ := h.sl.2 hn
  exact ⟨b, off, e, Nat.lt_of_lt_of_le hb hk.size, fun j hj => hk.cellN (hc j hj) (hF b hb (h.new hn _ e))⟩
theorem Dat.grow (h : Dat w B A n zs) (hk : Grow w w') : Dat w' B A n zs := h.kept hk fun _ _ _ => id
theorem Dat.mono {B' : Nat} (h : Dat w B A n zs) (hB : B' ≤ B) : Dat w B' A n zs := ⟨h.sl, h.byt, h.few, fun h0 y e => Nat.le_trans hB (h.new h0 y e)⟩
theorem Dat.of_rep {g : Nat} {v : Int} (hv : 0 ≤ v ∧ v < 256) (hn : n ≤ 15) (hB : B ≤ g) (h : ∀ j, j < n → w.cell? ⟨g, j, none⟩ = some (.int .u8 v)) : Dat w B (some ⟨g, 0, none⟩) n (List.replicate n v) := by
  refine ⟨⟨by simp, fun h0 => ⟨g, 0, rfl, block_lt_of_cell (h 0 h0), fun j hj => ?_⟩⟩, rep_bytes hv _, hn, fun _ y e => by injection e with e; rw [← e]; exact hB⟩
  rw [Nat.zero_add, h j hj]
  simp [List.getD_eq_getElem?_getD, hj]
/-- A call is handed back; its data are new. -/
def OpP (o : MdOp) (w : World) (e : Ending) (w' : World) : Prop := ∃ A n cap, e = .returned (.agg (opl o A n cap).toArray) ∧ Dat w' w.heap.size A n o.d ∧ Grow w w'
theorem op_size : (Try.prog.info? 31).map (·.size) = some 6 := by kernel_rfl
theorem set_row {g : Nat} {t : TypeId} {cs : List Value} (h : Blk w g t cs) (xs : Array Value) : Blk (w.setRow g xs) g t xs.toList ∧ Kept (fun k => k = g) w (w.setRow g xs) :=
  ⟨by have := setRow_heap w g _ xs t (0, 0) h; unfold Blk; rw [this], ⟨rfl, rfl, rfl, by simp, fun i hi hf => setRow_other w g i _ hf⟩⟩
theorem load_op {g : Nat} {t : TypeId} {x1 x2 x3 x4 x5 x6 : Value} (hg : Blk w g t [x1, x2, x3, x4, x5, x6]) : (loadVar 31 ⟨g, 0, none⟩).run Try.prog w = .ok (.agg #[x1, x2, x3, x4, x5, x6]) w :=
  run_loadVar_row w g t 31 #[x1, x2, x3, x4, x5, x6] (0, 0) _ hg Try.underlying31 rfl op_size
theorem ret_op {fn : Func} {R : Ending → World → Prop} {act : Act} {p g : Nat} {t : TypeId} {x1 x2 x3 x4 x5 x6 : Value} (h : fn.results = #[.cell p 31]) (hp : act.tmps.getD p undef = .pointer (some ⟨g, 0, none⟩)) (hg : Blk w g t [x1, x2, x3, x4, x5, x6]) (hd : act.defers = []) (hR : R (.returned (.agg #[x1, x2, x3, x4, x5, x6])) w) : bodyPost Try.prog fn R .ret act w := by
  refine bodyPost_ret ?_ hd hR
  have hp' : act.tmps[p]?.getD undef = .pointer (some ⟨g, 0, none⟩) := by simpa using hp
  simp [results, h, hp', asAddr, load_op hg]
/-- The blocks of a pool and of a call that are laid at a call's head. -/
theorem two_new (w : World) (p f s k : Int) : ∃ w0 : World, (w.alloc (.cells #[.int .i64 p, .int .i64 f, .int .i64 s, .int .i64 k] 24)).alloc (.cells #[.int .i64 0, .int .i64 0, .int .i64 0, .int .i64 0, .int .i64 0, .slice none 0 0] 31) = w0
    ∧ Blk w0 w.heap.size 24 [.int .i64 p, .int .i64 f, .int .i64 s, .int .i64 k] ∧ Blk w0 (w.heap.size + 1) 31 [.int .i64 0, .int .i64 0, .int .i64 0, .int .i64 0, .int .i64 0, .slice none 0 0] ∧ Grow w w0 := by
  refine ⟨_, rfl, (Blk.new w _ _).alloc _, ?_, ((Kept.refl _ _).alloc _).alloc _⟩
  have := Blk.new (w.alloc (.cells #[.int .i64 p, .int .i64 f, .int .i64 s, .int .i64 k] 24)) 31 [.int .i64 0, .int .i64 0, .int .i64 0, .int .i64 0, .int .i64 0, .slice none 0 0]
  rwa [show (w.alloc (.cells #[.int .i64 p, .int .i64 f, .int .i64 s, .int .i64 k] 24)).heap.size = w.heap.size + 1 by simp] at this
theorem op_fin {o o' : MdOp} {g n c : Nat} {A : Option Addr} {t : TypeId} {cs : List Value} (he : o = o') {x : Value} (hx : x = .agg (opl o' A n c).toArray) (hg : w.heap.size ≤ g) (hw : Grow w w') (hb : Blk w' (g + 1) t cs) (hd : Dat w' (g + 2) A n o'.d) :
    OpP o w (.returned x) (w'.setRow (g + 1) (opl o' A n c).toArray) := by
  subst he hx
  have hk := (set_row hb (opl o A n c).toArray).2
  refine ⟨A, n, c, rfl, (hd.kept hk fun k _ h e => by have e : k = g + 1 := e; omega).mono (by omega), ?_⟩
  exact hw.then hk fun k hk' e => by have e : k = g + 1 := e; omega
theorem infoU : (Try.prog.info? 5).map (fun i => (i.zero, i.size, i.bytes)) = some (some (.int .u8 0), 1, 1) := by kernel_rfl
theorem rep_succ (j : Nat) (b : Int) : ((List.replicate j b).map fun z => Value.int .u8 z) ++ [.int .u8 b] = (List.replicate (j + 1) b).map fun z => Value.int .u8 z := by
  rw [List.replicate_succ', List.map_append]
  rfl
theorem grow_below {w1 w2 : World} {B : Nat} (h : Grow w w1) (hB : w.heap.size ≤ B) (hb : Below B w1 w2) : Grow w w2 :=
  ⟨hb.os.trans h.os, hb.tape.trans h.tape, hb.output.trans h.output, Nat.le_trans h.size hb.size, fun k hk hf => (hb.block k (by omega)).trans (h.block k hk hf)⟩
-- WALKS (written by wip/tools/gensc.py)
set_option maxHeartbeats 8000000 in
theorem op_any {c : Cf} (hc : c.may) {a b d : Int} (ha : 0 ≤ a ∧ a < 256) (hb : 0 ≤ b ∧ b < 256) (hd : 0 ≤ d ∧ d < 256) (w : World) : Calls Try.prog 12 #[.int .u8 a, .int .u8 b, .int .u8 d, cfv c] w (OpP (opM c a b d) w) := by
  have CM : Hid (∀ wx, Calls Try.prog 15 #[cfv c] wx (Tells c.may wx)) := fun wx => may_any c wx
  have HC := Lib.hid hc
  unfold Cf.may at hc
  obtain ⟨cp, cf, cs, cc⟩ := c
  unfold cfv at CM ⊢
  dsimp only at CM hc ⊢
  go_enter Try.func12, Try.ntmps12
  go_upto_region 1 with (fail)
  obtain ⟨w0, hw0, hb7, hb8, hg0⟩ := two_new w cp cf cs cc
  have HB8 := Lib.hid hb8
  have HG0 := Lib.hid hg0
  have s0 := hb7.cell 0
  have s1 := hb7.cell 1
  have s2 := hb7.cell 2
  have s3 := hb7.cell 3
  simp only [List.getElem?_cons_zero, List.getElem?_cons_succ] at s0 s1 s2 s3
  clear hb7 hb8 hg0
  rw [hw0]
  clear hw0
  obtain ⟨g, hgg⟩ : ∃ g, g = w.heap.size := ⟨_, rfl⟩
  rw [← hgg] at s0 s1 s2 s3 HB8 ⊢
  have HGE : Hid (w.heap.size ≤ g) := Nat.le_of_eq hgg.symm
  clear hgg
  go_upto_region 4 with (go_at_call 15; (with_reducible refine (CM.out _).mono ?_); rintro e wm ⟨⟨bm, rfl, hbm⟩, hgm⟩; obtain rfl := hbm.2 HC.out; have HGM := Lib.hid hgm; replace s0 := hgm.cellN s0 id; replace s1 := hgm.cellN s1 id; replace s2 := hgm.cellN s2 id; replace s3 := hgm.cellN s3 id; clear hbm hgm)
  have hb9 := Blk.new wm 31 [.int .i64 (a % 8 + 1), .int .i64 0, .int .i64 0, .int .i64 0, .int .i64 0, .slice none 0 0]
  have hga : Grow wm (wm.alloc (.cells #[.int .i64 (a % 8 + 1), .int .i64 0, .int .i64 0, .int .i64 0, .int .i64 0, .slice none 0 0] 31)) := (Kept.refl _ _).alloc _
  generalize wm.alloc (.cells #[.int .i64 (a % 8 + 1), .int .i64 0, .int .i64 0, .int .i64 0, .int .i64 0, .slice none 0 0] 31) = wa at hb9 hga ⊢
  obtain ⟨h, hh⟩ : ∃ h, h = wm.heap.size := ⟨_, rfl⟩
  rw [← hh] at hb9 ⊢
  have HGH : Hid (g + 1 < h) := by have h1 := HB8.out.lt; have h2 := HGM.out.size; show g + 1 < h; omega
  have HWA : Hid (Grow w wa) := (HG0.out.trans HGM.out).trans hga
  have HB8' := Lib.hid ((HB8.out.grow HGM.out).grow hga)
  replace s0 := hga.cellN s0 id
  have HB9 := Lib.hid hb9
  clear hh hb9 hga s1 s2 s3 HB8 HG0 HGM CM HC
  have hcp : (0 : Int) < cp + 1 := by omega
  have hcp0 : ¬ (cp + 1 = 0) := by omega
  go_upto_region 6 with (fail)
  rcases (by omega : a % 8 = 0 ∨ a % 8 = 1 ∨ a % 8 = 2 ∨ a % 8 = 3 ∨ a % 8 = 4 ∨ a % 8 = 5 ∨ a % 8 = 6 ∨ a % 8 = 7) with hr | hr | hr | hr | hr | hr | hr | hr
  · have HE : Hid (opM ⟨cp, cf, cs, cc⟩ a b d = ⟨1, 0, 0, 0, 0, []⟩) := by unfold Hid opM; simp [hr]
    have b9 : Blk wa h 31 [.int .i64 1, .int .i64 0, .int .i64 0, .int .i64 0, .int .i64 0, .slice none 0 0] := by have := HB9.out; rw [hr] at this; exact this
    have b8 := HB8'.out
    have r0 := b9.cell 0
    have r1 := b9.cell 1
    have r2 := b9.cell 2
    have r3 := b9.cell 3
    have r4 := b9.cell 4
    have r5 := b9.cell 5
    simp only [List.getElem?_cons_zero, List.getElem?_cons_succ] at r0 r1 r2 r3 r4 r5
    clear HB9 HB8'
    go_upto_region 17 with (fail)
    clear r0 r1 r2 r3 r4 r5 s0
    have q9 : Blk wa h 31 [.int .i64 1, .int .i64 0, .int .i64 0, .int .i64 0, .int .i64 0, .slice none 0 0] := b9
    have q8 := b8
    have hw : Grow w wa := HWA.out
    have HWX := Lib.hid hw
    clear hw HWA
    have r0 := q9.cell 0
    have r1 := q9.cell 1
    have r2 := q9.cell 2
    have r3 := q9.cell 3
    have r4 := q9.cell 4
    have r5 := q9.cell 5
    simp only [List.getElem?_cons_zero, List.getElem?_cons_succ] at r0 r1 r2 r3 r4 r5
    go_wp2_with (refine wpList_store_row rfl 31 _ _ rfl (g + 1) #[.int .i64 1, .int .i64 0, .int .i64 0, .int .i64 0, .int .i64 0, .slice none 0 0] rfl rfl _ _ q8 op_size rfl (by simp [Value.oneCell']) ?_)
    refine ret_op (g := g + 1) rfl rfl (set_row q8 _).1 rfl ?_
    exact op_fin HE.out rfl HGE.out HWX.out q8 (Dat.nil _ _ _)
  · have HE : Hid (opM ⟨cp, cf, cs, cc⟩ a b d = ⟨2, b % (cp + 1), 0, 0, 0, []⟩) := by unfold Hid opM; simp [hr]
    have b9 : Blk wa h 31 [.int .i64 2, .int .i64 0, .int .i64 0, .int .i64 0, .int .i64 0, .slice none 0 0] := by have := HB9.out; rw [hr] at this; exact this
    have b8 := HB8'.out
    have r0 := b9.cell 0
    have r1 := b9.cell 1
    have r2 := b9.cell 2
    have r3 := b9.cell 3
    have r4 := b9.cell 4
    have r5 := b9.cell 5
    simp only [List.getElem?_cons_zero, List.getElem?_cons_succ] at r0 r1 r2 r3 r4 r5
    have z1 := b9.frozen 1
    clear HB9 HB8'
    go_upto_region 17 with (fail)
    clear r0 r1 r2 r3 r4 r5 s0 z1
    have q9 : Blk (wa.setCell ⟨h, 1, none⟩ (.int .i64 (b % (cp + 1)))) h 31 [.int .i64 2, .int .i64 (b % (cp + 1)), .int .i64 0, .int .i64 0, .int .i64 0, .slice none 0 0] := (Blk.set (b9) 1 (.int .i64 (b % (cp + 1))))
    have q8 : Blk (wa.setCell ⟨h, 1, none⟩ (.int .i64 (b % (cp + 1)))) (g + 1) 31 [.int .i64 0, .int .i64 0, .int .i64 0, .int .i64 0, .int .i64 0, .slice none 0 0] := (Blk.other (b8) (p := ⟨h, 1, none⟩) (by have := HGH.out; show g + 1 ≠ h; omega) (.int .i64 (b % (cp + 1))))
    have hw : Grow w (wa.setCell ⟨h, 1, none⟩ (.int .i64 (b % (cp + 1)))) := (Kept.setCell (HWA.out) (p := ⟨h, 1, none⟩) (fun hl => by have h1 := HGH.out; have h2 := HGE.out; have h3 : h < w.heap.size := hl; omega) (.int .i64 (b % (cp + 1))))
    generalize (wa.setCell ⟨h, 1, none⟩ (.int .i64 (b % (cp + 1)))) = wx at q9 q8 hw ⊢
    have HWX := Lib.hid hw
    clear hw HWA
    have r0 := q9.cell 0
    have r1 := q9.cell 1
    have r2 := q9.cell 2
    have r3 := q9.cell 3
    have r4 := q9.cell 4
    have r5 := q9.cell 5
    simp only [List.getElem?_cons_zero, List.getElem?_cons_succ] at r0 r1 r2 r3 r4 r5
    go_wp2_with (refine wpList_store_row rfl 31 _ _ rfl (g + 1) #[.int .i64 2, .int .i64 (b % (cp + 1)), .int .i64 0, .int .i64 0, .int .i64 0, .slice none 0 0] rfl rfl _ _ q8 op_size rfl (by simp [Value.oneCell']) ?_)
    refine ret_op (g := g + 1) rfl rfl (set_row q8 _).1 rfl ?_
    exact op_fin HE.out rfl HGE.out HWX.out q8 (Dat.nil _ _ _)
  · have HE : Hid (opM ⟨cp, cf, cs, cc⟩ a b d = ⟨3, 0, b % 7, d % 16, d / 16, []⟩) := by unfold Hid opM; simp [hr]
    have b9 : Blk wa h 31 [.int .i64 3, .int .i64 0, .int .i64 0, .int .i64 0, .int .i64 0, .slice none 0 0] := by have := HB9.out; rw [hr] at this; exact this
    have b8 := HB8'.out
    have r0 := b9.cell 0
    have r1 := b9.cell 1
    have r2 := b9.cell 2
    have r3 := b9.cell 3
    have r4 := b9.cell 4
    have r5 := b9.cell 5
    simp only [List.getElem?_cons_zero, List.getElem?_cons_succ] at r0 r1 r2 r3 r4 r5
    have z2 := b9.frozen 2
    have z3 := b9.frozen 3
    have z4 := b9.frozen 4
    clear HB9 HB8'
    go_upto_region 17 with (fail)
    clear r0 r1 r2 r3 r4 r5 s0 z2 z3 z4
    have q9 : Blk (((wa.setCell ⟨h, 2, none⟩ (.int .i64 (b % 7))).setCell ⟨h, 3, none⟩ (.int .i64 (d % 16))).setCell ⟨h, 4, none⟩ (.int .i64 (d / 16))) h 31 [.int .i64 3, .int .i64 0, .int .i64 (b % 7), .int .i64 (d % 16), .int .i64 (d / 16), .slice none 0 0] := (Blk.set ((Blk.set ((Blk.set (b9) 2 (.int .i64 (b % 7)))) 3 (.int .i64 (d % 16)))) 4 (.int .i64 (d / 16)))
    have q8 : Blk (((wa.setCell ⟨h, 2, none⟩ (.int .i64 (b % 7))).setCell ⟨h, 3, none⟩ (.int .i64 (d % 16))).setCell ⟨h, 4, none⟩ (.int .i64 (d / 16))) (g + 1) 31 [.int .i64 0, .int .i64 0, .int .i64 0, .int .i64 0, .int .i64 0, .slice none 0 0] := (Blk.other ((Blk.other ((Blk.other (b8) (p := ⟨h, 2, none⟩) (by have := HGH.out; show g + 1 ≠ h; omega) (.int .i64 (b % 7)))) (p := ⟨h, 3, none⟩) (by have := HGH.out; show g + 1 ≠ h; omega) (.int .i64 (d % 16)))) (p := ⟨h, 4, none⟩) (by have := HGH.out; show g + 1 ≠ h; omega) (.int .i64 (d / 16)))
    have hw : Grow w (((wa.setCell ⟨h, 2, none⟩ (.int .i64 (b % 7))).setCell ⟨h, 3, none⟩ (.int .i64 (d % 16))).setCell ⟨h, 4, none⟩ (.int .i64 (d / 16))) := (Kept.setCell ((Kept.setCell ((Kept.setCell (HWA.out) (p := ⟨h, 2, none⟩) (fun hl => by have h1 := HGH.out; have h2 := HGE.out; have h3 : h < w.heap.size := hl; omega) (.int .i64 (b % 7)))) (p := ⟨h, 3, none⟩) (fun hl => by have h1 := HGH.out; have h2 := HGE.out; have h3 : h < w.heap.size := hl; omega) (.int .i64 (d % 16)))) (p := ⟨h, 4, none⟩) (fun hl => by have h1 := HGH.out; have h2 := HGE.out; have h3 : h < w.heap.size := hl; omega) (.int .i64 (d / 16)))
    generalize (((wa.setCell ⟨h, 2, none⟩ (.int .i64 (b % 7))).setCell ⟨h, 3, none⟩ (.int .i64 (d % 16))).setCell ⟨h, 4, none⟩ (.int .i64 (d / 16))) = wx at q9 q8 hw ⊢
    have HWX := Lib.hid hw
    clear hw HWA
    have r0 := q9.cell 0
    have r1 := q9.cell 1
    have r2 := q9.cell 2
    have r3 := q9.cell 3
    have r4 := q9.cell 4
    have r5 := q9.cell 5
    simp only [List.getElem?_cons_zero, List.getElem?_cons_succ] at r0 r1 r2 r3 r4 r5
    go_wp2_with (refine wpList_store_row rfl 31 _ _ rfl (g + 1) #[.int .i64 3, .int .i64 0, .int .i64 (b % 7), .int .i64 (d % 16), .int .i64 (d / 16), .slice none 0 0] rfl rfl _ _ q8 op_size rfl (by simp [Value.oneCell']) ?_)
    refine ret_op (g := g + 1) rfl rfl (set_row q8 _).1 rfl ?_
    exact op_fin HE.out rfl HGE.out HWX.out q8 (Dat.nil _ _ _)
  · have HE : Hid (opM ⟨cp, cf, cs, cc⟩ a b d = ⟨4, 0, b % 7, d % 16, 0, List.replicate (d / 16).toNat b⟩) := by unfold Hid opM; simp [hr]
    have b9 : Blk wa h 31 [.int .i64 4, .int .i64 0, .int .i64 0, .int .i64 0, .int .i64 0, .slice none 0 0] := by have := HB9.out; rw [hr] at this; exact this
    have b8 := HB8'.out
    obtain ⟨N, hN⟩ := Int.eq_ofNat_of_zero_le (show 0 ≤ d / 16 by omega)
    have hN15 : N ≤ 15 := by omega
    have CR : Hid (∀ wx bx, wx.cell? ⟨bx, 0, none⟩ = some (.int .u8 b) → Calls Try.prog 17 #[.slice (some ⟨bx, 0, none⟩) 1 1, .int .i64 (d / 16)] wx (RepP b N wx)) := fun wx bx h => by rw [hN]; exact repeat_any h hN15
    have HNN := Lib.hid hN
    have r0 := b9.cell 0
    have r1 := b9.cell 1
    have r2 := b9.cell 2
    have r3 := b9.cell 3
    have r4 := b9.cell 4
    have r5 := b9.cell 5
    simp only [List.getElem?_cons_zero, List.getElem?_cons_succ] at r0 r1 r2 r3 r4 r5
    have x0 := cell_new1 wa (.int .u8 b) 5
    have HX : Hid (Grow wa (wa.alloc (.cells #[.int .u8 b] 5))) := (Kept.refl _ _).alloc _
    have HB9' := Lib.hid b9
    clear HB9 HB8' b9 hN
    have HB8 := Lib.hid b8
    clear b8
    go_upto_region 17 with (go_at_call 17; (with_reducible refine (CR.out _ _ x0).mono ?_); rintro e wr ⟨u, cu, rfl, hu1, hu2, hu3, hu4, hgr⟩; have HU := Lib.hid (And.intro hu1 hu4); have HGR : Hid (Grow wa wr) := HX.out.trans hgr; replace r0 := HGR.out.cellN r0 id; replace r1 := HGR.out.cellN r1 id; replace r2 := HGR.out.cellN r2 id; replace r3 := HGR.out.cellN r3 id; replace r4 := HGR.out.cellN r4 id; replace r5 := HGR.out.cellN r5 id; have z2 := (HB9'.out.grow HGR.out).frozen 2; have z3 := (HB9'.out.grow HGR.out).frozen 3; have z5 := (HB9'.out.grow HGR.out).frozen 5; clear hu1 hu4 hgr)
    clear r0 r1 r2 r3 r4 r5 s0 z2 z3 z5
    have b9 := HB9'.out.grow HGR.out
    have b8 := HB8.out.grow HGR.out
    have hdat : Dat wr (h + 1) (some ⟨u, 0, none⟩) N (List.replicate (d / 16).toNat b) := by rw [HNN.out, Int.toNat_natCast]; exact Dat.of_rep hb hN15 (by have h1 := HU.out.1; have h2 := HB9'.out.lt; have h3 := HX.out.size; omega) HU.out.2
    have q9 : Blk (((wr.setCell ⟨h, 2, none⟩ (.int .i64 (b % 7))).setCell ⟨h, 3, none⟩ (.int .i64 (d % 16))).setCell ⟨h, 5, none⟩ (.slice (some ⟨u, 0, none⟩) N cu)) h 31 [.int .i64 4, .int .i64 0, .int .i64 (b % 7), .int .i64 (d % 16), .int .i64 0, .slice (some ⟨u, 0, none⟩) N cu] := (Blk.set ((Blk.set ((Blk.set (b9) 2 (.int .i64 (b % 7)))) 3 (.int .i64 (d % 16)))) 5 (.slice (some ⟨u, 0, none⟩) N cu))
    have q8 : Blk (((wr.setCell ⟨h, 2, none⟩ (.int .i64 (b % 7))).setCell ⟨h, 3, none⟩ (.int .i64 (d % 16))).setCell ⟨h, 5, none⟩ (.slice (some ⟨u, 0, none⟩) N cu)) (g + 1) 31 [.int .i64 0, .int .i64 0, .int .i64 0, .int .i64 0, .int .i64 0, .slice none 0 0] := (Blk.other ((Blk.other ((Blk.other (b8) (p := ⟨h, 2, none⟩) (by have := HGH.out; show g + 1 ≠ h; omega) (.int .i64 (b % 7)))) (p := ⟨h, 3, none⟩) (by have := HGH.out; show g + 1 ≠ h; omega) (.int .i64 (d % 16)))) (p := ⟨h, 5, none⟩) (by have := HGH.out; show g + 1 ≠ h; omega) (.slice (some ⟨u, 0, none⟩) N cu))
    have hw : Grow w (((wr.setCell ⟨h, 2, none⟩ (.int .i64 (b % 7))).setCell ⟨h, 3, none⟩ (.int .i64 (d % 16))).setCell ⟨h, 5, none⟩ (.slice (some ⟨u, 0, none⟩) N cu)) := (Kept.setCell ((Kept.setCell ((Kept.setCell ((HWA.out.trans HGR.out)) (p := ⟨h, 2, none⟩) (fun hl => by have h1 := HGH.out; have h2 := HGE.out; have h3 : h < w.heap.size := hl; omega) (.int .i64 (b % 7)))) (p := ⟨h, 3, none⟩) (fun hl => by have h1 := HGH.out; have h2 := HGE.out; have h3 : h < w.heap.size := hl; omega) (.int .i64 (d % 16)))) (p := ⟨h, 5, none⟩) (fun hl => by have h1 := HGH.out; have h2 := HGE.out; have h3 : h < w.heap.size := hl; omega) (.slice (some ⟨u, 0, none⟩) N cu))
    have hdx : Dat (((wr.setCell ⟨h, 2, none⟩ (.int .i64 (b % 7))).setCell ⟨h, 3, none⟩ (.int .i64 (d % 16))).setCell ⟨h, 5, none⟩ (.slice (some ⟨u, 0, none⟩) N cu)) (h + 1) (some ⟨u, 0, none⟩) N (List.replicate (d / 16).toNat b) := hdat.kept (((kept_set wr h 2 (.int .i64 (b % 7))).trans (kept_set _ h 3 (.int .i64 (d % 16)))).trans (kept_set _ h 5 (.slice (some ⟨u, 0, none⟩) N cu))) fun k _ hk e => by have e : k = h := e; omega
    generalize (((wr.setCell ⟨h, 2, none⟩ (.int .i64 (b % 7))).setCell ⟨h, 3, none⟩ (.int .i64 (d % 16))).setCell ⟨h, 5, none⟩ (.slice (some ⟨u, 0, none⟩) N cu)) = wx at q9 q8 hw hdx ⊢
    have HWX := Lib.hid hw
    clear hw HWA
    have HDX : Hid (Dat wx (g + 2) (some ⟨u, 0, none⟩) N (List.replicate (d / 16).toNat b)) := hdx.mono (by have := HGH.out; omega)
    clear hdx hdat b9 b8
    have r0 := q9.cell 0
    have r1 := q9.cell 1
    have r2 := q9.cell 2
    have r3 := q9.cell 3
    have r4 := q9.cell 4
    have r5 := q9.cell 5
    simp only [List.getElem?_cons_zero, List.getElem?_cons_succ] at r0 r1 r2 r3 r4 r5
    go_wp2_with (refine wpList_store_row rfl 31 _ _ rfl (g + 1) #[.int .i64 4, .int .i64 0, .int .i64 (b % 7), .int .i64 (d % 16), .int .i64 0, .slice (some ⟨u, 0, none⟩) N cu] rfl rfl _ _ q8 op_size rfl (by simp [Value.oneCell']) ?_)
    refine ret_op (g := g + 1) rfl rfl (set_row q8 _).1 rfl ?_
    exact op_fin HE.out rfl HGE.out HWX.out q8 HDX.out
  · have HE : Hid (opM ⟨cp, cf, cs, cc⟩ a b d = ⟨5, 0, b % 7, 0, 0, []⟩) := by unfold Hid opM; simp [hr]
    have b9 : Blk wa h 31 [.int .i64 5, .int .i64 0, .int .i64 0, .int .i64 0, .int .i64 0, .slice none 0 0] := by have := HB9.out; rw [hr] at this; exact this
    have b8 := HB8'.out
    have r0 := b9.cell 0
    have r1 := b9.cell 1
    have r2 := b9.cell 2
    have r3 := b9.cell 3
    have r4 := b9.cell 4
    have r5 := b9.cell 5
    simp only [List.getElem?_cons_zero, List.getElem?_cons_succ] at r0 r1 r2 r3 r4 r5
    have z2 := b9.frozen 2
    clear HB9 HB8'
    go_upto_region 17 with (fail)
    clear r0 r1 r2 r3 r4 r5 s0 z2
    have q9 : Blk (wa.setCell ⟨h, 2, none⟩ (.int .i64 (b % 7))) h 31 [.int .i64 5, .int .i64 0, .int .i64 (b % 7), .int .i64 0, .int .i64 0, .slice none 0 0] := (Blk.set (b9) 2 (.int .i64 (b % 7)))
    have q8 : Blk (wa.setCell ⟨h, 2, none⟩ (.int .i64 (b % 7))) (g + 1) 31 [.int .i64 0, .int .i64 0, .int .i64 0, .int .i64 0, .int .i64 0, .slice none 0 0] := (Blk.other (b8) (p := ⟨h, 2, none⟩) (by have := HGH.out; show g + 1 ≠ h; omega) (.int .i64 (b % 7)))
    have hw : Grow w (wa.setCell ⟨h, 2, none⟩ (.int .i64 (b % 7))) := (Kept.setCell (HWA.out) (p := ⟨h, 2, none⟩) (fun hl => by have h1 := HGH.out; have h2 := HGE.out; have h3 : h < w.heap.size := hl; omega) (.int .i64 (b % 7)))
    generalize (wa.setCell ⟨h, 2, none⟩ (.int .i64 (b % 7))) = wx at q9 q8 hw ⊢
    have HWX := Lib.hid hw
    clear hw HWA
    have r0 := q9.cell 0
    have r1 := q9.cell 1
    have r2 := q9.cell 2
    have r3 := q9.cell 3
    have r4 := q9.cell 4
    have r5 := q9.cell 5
    simp only [List.getElem?_cons_zero, List.getElem?_cons_succ] at r0 r1 r2 r3 r4 r5
    go_wp2_with (refine wpList_store_row rfl 31 _ _ rfl (g + 1) #[.int .i64 5, .int .i64 0, .int .i64 (b % 7), .int .i64 0, .int .i64 0, .slice none 0 0] rfl rfl _ _ q8 op_size rfl (by simp [Value.oneCell']) ?_)
    refine ret_op (g := g + 1) rfl rfl (set_row q8 _).1 rfl ?_
    exact op_fin HE.out rfl HGE.out HWX.out q8 (Dat.nil _ _ _)
  · have HE : Hid (opM ⟨cp, cf, cs, cc⟩ a b d = ⟨6, b % (cp + 1), 0, 0, 0, []⟩) := by unfold Hid opM; simp [hr]
    have b9 : Blk wa h 31 [.int .i64 6, .int .i64 0, .int .i64 0, .int .i64 0, .int .i64 0, .slice none 0 0] := by have := HB9.out; rw [hr] at this; exact this
    have b8 := HB8'.out
    have r0 := b9.cell 0
    have r1 := b9.cell 1
    have r2 := b9.cell 2
    have r3 := b9.cell 3
    have r4 := b9.cell 4
    have r5 := b9.cell 5
    simp only [List.getElem?_cons_zero, List.getElem?_cons_succ] at r0 r1 r2 r3 r4 r5
    have z1 := b9.frozen 1
    clear HB9 HB8'
    go_upto_region 17 with (fail)
    clear r0 r1 r2 r3 r4 r5 s0 z1
    have q9 : Blk (wa.setCell ⟨h, 1, none⟩ (.int .i64 (b % (cp + 1)))) h 31 [.int .i64 6, .int .i64 (b % (cp + 1)), .int .i64 0, .int .i64 0, .int .i64 0, .slice none 0 0] := (Blk.set (b9) 1 (.int .i64 (b % (cp + 1))))
    have q8 : Blk (wa.setCell ⟨h, 1, none⟩ (.int .i64 (b % (cp + 1)))) (g + 1) 31 [.int .i64 0, .int .i64 0, .int .i64 0, .int .i64 0, .int .i64 0, .slice none 0 0] := (Blk.other (b8) (p := ⟨h, 1, none⟩) (by have := HGH.out; show g + 1 ≠ h; omega) (.int .i64 (b % (cp + 1))))
    have hw : Grow w (wa.setCell ⟨h, 1, none⟩ (.int .i64 (b % (cp + 1)))) := (Kept.setCell (HWA.out) (p := ⟨h, 1, none⟩) (fun hl => by have h1 := HGH.out; have h2 := HGE.out; have h3 : h < w.heap.size := hl; omega) (.int .i64 (b % (cp + 1))))
    generalize (wa.setCell ⟨h, 1, none⟩ (.int .i64 (b % (cp + 1)))) = wx at q9 q8 hw ⊢
    have HWX := Lib.hid hw
    clear hw HWA
    have r0 := q9.cell 0
    have r1 := q9.cell 1
    have r2 := q9.cell 2
    have r3 := q9.cell 3
    have r4 := q9.cell 4
    have r5 := q9.cell 5
    simp only [List.getElem?_cons_zero, List.getElem?_cons_succ] at r0 r1 r2 r3 r4 r5
    go_wp2_with (refine wpList_store_row rfl 31 _ _ rfl (g + 1) #[.int .i64 6, .int .i64 (b % (cp + 1)), .int .i64 0, .int .i64 0, .int .i64 0, .slice none 0 0] rfl rfl _ _ q8 op_size rfl (by simp [Value.oneCell']) ?_)
    refine ret_op (g := g + 1) rfl rfl (set_row q8 _).1 rfl ?_
    exact op_fin HE.out rfl HGE.out HWX.out q8 (Dat.nil _ _ _)
  · have HE : Hid (opM ⟨cp, cf, cs, cc⟩ a b d = ⟨7, 0, 0, 0, 0, []⟩) := by unfold Hid opM; simp [hr]
    have b9 : Blk wa h 31 [.int .i64 7, .int .i64 0, .int .i64 0, .int .i64 0, .int .i64 0, .slice none 0 0] := by have := HB9.out; rw [hr] at this; exact this
    have b8 := HB8'.out
    have r0 := b9.cell 0
    have r1 := b9.cell 1
    have r2 := b9.cell 2
    have r3 := b9.cell 3
    have r4 := b9.cell 4
    have r5 := b9.cell 5
    simp only [List.getElem?_cons_zero, List.getElem?_cons_succ] at r0 r1 r2 r3 r4 r5
    clear HB9 HB8'
    go_upto_region 17 with (fail)
    clear r0 r1 r2 r3 r4 r5 s0
    have q9 : Blk wa h 31 [.int .i64 7, .int .i64 0, .int .i64 0, .int .i64 0, .int .i64 0, .slice none 0 0] := b9
    have q8 := b8
    have hw : Grow w wa := HWA.out
    have HWX := Lib.hid hw
    clear hw HWA
    have r0 := q9.cell 0
    have r1 := q9.cell 1
    have r2 := q9.cell 2
    have r3 := q9.cell 3
    have r4 := q9.cell 4
    have r5 := q9.cell 5
    simp only [List.getElem?_cons_zero, List.getElem?_cons_succ] at r0 r1 r2 r3 r4 r5
    go_wp2_with (refine wpList_store_row rfl 31 _ _ rfl (g + 1) #[.int .i64 7, .int .i64 0, .int .i64 0, .int .i64 0, .int .i64 0, .slice none 0 0] rfl rfl _ _ q8 op_size rfl (by simp [Value.oneCell']) ?_)
    refine ret_op (g := g + 1) rfl rfl (set_row q8 _).1 rfl ?_
    exact op_fin HE.out rfl HGE.out HWX.out q8 (Dat.nil _ _ _)
  · have HE : Hid (opM ⟨cp, cf, cs, cc⟩ a b d = ⟨8, b % (cp + 1), 0, 0, 0, []⟩) := by unfold Hid opM; simp [hr]
    have b9 : Blk wa h 31 [.int .i64 8, .int .i64 0, .int .i64 0, .int .i64 0, .int .i64 0, .slice none 0 0] := by have := HB9.out; rw [hr] at this; exact this
    have b8 := HB8'.out
    have r0 := b9.cell 0
    have r1 := b9.cell 1
    have r2 := b9.cell 2
    have r3 := b9.cell 3
    have r4 := b9.cell 4
    have r5 := b9.cell 5
    simp only [List.getElem?_cons_zero, List.getElem?_cons_succ] at r0 r1 r2 r3 r4 r5
    have z1 := b9.frozen 1
    clear HB9 HB8'
    go_upto_region 17 with (fail)
    clear r0 r1 r2 r3 r4 r5 s0 z1
    have q9 : Blk (wa.setCell ⟨h, 1, none⟩ (.int .i64 (b % (cp + 1)))) h 31 [.int .i64 8, .int .i64 (b % (cp + 1)), .int .i64 0, .int .i64 0, .int .i64 0, .slice none 0 0] := (Blk.set (b9) 1 (.int .i64 (b % (cp + 1))))
    have q8 : Blk (wa.setCell ⟨h, 1, none⟩ (.int .i64 (b % (cp + 1)))) (g + 1) 31 [.int .i64 0, .int .i64 0, .int .i64 0, .int .i64 0, .int .i64 0, .slice none 0 0] := (Blk.other (b8) (p := ⟨h, 1, none⟩) (by have := HGH.out; show g + 1 ≠ h; omega) (.int .i64 (b % (cp + 1))))
    have hw : Grow w (wa.setCell ⟨h, 1, none⟩ (.int .i64 (b % (cp + 1)))) := (Kept.setCell (HWA.out) (p := ⟨h, 1, none⟩) (fun hl => by have h1 := HGH.out; have h2 := HGE.out; have h3 : h < w.heap.size := hl; omega) (.int .i64 (b % (cp + 1))))
    generalize (wa.setCell ⟨h, 1, none⟩ (.int .i64 (b % (cp + 1)))) = wx at q9 q8 hw ⊢
    have HWX := Lib.hid hw
    clear hw HWA
    have r0 := q9.cell 0
    have r1 := q9.cell 1
    have r2 := q9.cell 2
    have r3 := q9.cell 3
    have r4 := q9.cell 4
    have r5 := q9.cell 5
    simp only [List.getElem?_cons_zero, List.getElem?_cons_succ] at r0 r1 r2 r3 r4 r5
    go_wp2_with (refine wpList_store_row rfl 31 _ _ rfl (g + 1) #[.int .i64 8, .int .i64 (b % (cp + 1)), .int .i64 0, .int .i64 0, .int .i64 0, .slice none 0 0] rfl rfl _ _ q8 op_size rfl (by simp [Value.oneCell']) ?_)
    refine ret_op (g := g + 1) rfl rfl (set_row q8 _).1 rfl ?_
    exact op_fin HE.out rfl HGE.out HWX.out q8 (Dat.nil _ _ _)
set_option maxHeartbeats 8000000 in
theorem rop_any {c : Cf} (hc : c.may) {a b d : Int} (ha : 0 ≤ a ∧ a < 256) (hb : 0 ≤ b ∧ b < 256) (hd : 0 ≤ d ∧ d < 256) (w : World) : Calls Try.prog 13 #[.int .u8 a, .int .u8 b, .int .u8 d, cfv c] w (OpP (opM c a b d) w) := by
  have CM : Hid (∀ wx, Calls Try.prog 14 #[cfv c] wx (Tells c.may wx)) := fun wx => rmay_any c wx
  have HC := Lib.hid hc
  unfold Cf.may at hc
  obtain ⟨cp, cf, cs, cc⟩ := c
  unfold cfv at CM ⊢
  dsimp only at CM hc ⊢
  go_enter Try.func13, Try.ntmps13
  go_upto_region 1 with (fail)
  obtain ⟨w0, hw0, hb7, hb8, hg0⟩ := two_new w cp cf cs cc
  have HB8 := Lib.hid hb8
  have HG0 := Lib.hid hg0
  have s0 := hb7.cell 0
  have s1 := hb7.cell 1
  have s2 := hb7.cell 2
  have s3 := hb7.cell 3
  simp only [List.getElem?_cons_zero, List.getElem?_cons_succ] at s0 s1 s2 s3
  clear hb7 hb8 hg0
  rw [hw0]
  clear hw0
  obtain ⟨g, hgg⟩ : ∃ g, g = w.heap.size := ⟨_, rfl⟩
  rw [← hgg] at s0 s1 s2 s3 HB8 ⊢
  have HGE : Hid (w.heap.size ≤ g) := Nat.le_of_eq hgg.symm
  clear hgg
  go_upto_region 4 with (go_at_call 14; (with_reducible refine (CM.out _).mono ?_); rintro e wm ⟨⟨bm, rfl, hbm⟩, hgm⟩; obtain rfl := hbm.2 HC.out; have HGM := Lib.hid hgm; replace s0 := hgm.cellN s0 id; replace s1 := hgm.cellN s1 id; replace s2 := hgm.cellN s2 id; replace s3 := hgm.cellN s3 id; clear hbm hgm)
  have hb9 := Blk.new wm 31 [.int .i64 (a % 8 + 1), .int .i64 0, .int .i64 0, .int .i64 0, .int .i64 0, .slice none 0 0]
  have hga : Grow wm (wm.alloc (.cells #[.int .i64 (a % 8 + 1), .int .i64 0, .int .i64 0, .int .i64 0, .int .i64 0, .slice none 0 0] 31)) := (Kept.refl _ _).alloc _
  generalize wm.alloc (.cells #[.int .i64 (a % 8 + 1), .int .i64 0, .int .i64 0, .int .i64 0, .int .i64 0, .slice none 0 0] 31) = wa at hb9 hga ⊢
  obtain ⟨h, hh⟩ : ∃ h, h = wm.heap.size := ⟨_, rfl⟩
  rw [← hh] at hb9 ⊢
  have HGH : Hid (g + 1 < h) := by have h1 := HB8.out.lt; have h2 := HGM.out.size; show g + 1 < h; omega
  have HWA : Hid (Grow w wa) := (HG0.out.trans HGM.out).trans hga
  have HB8' := Lib.hid ((HB8.out.grow HGM.out).grow hga)
  replace s0 := hga.cellN s0 id
  have HB9 := Lib.hid hb9
  clear hh hb9 hga s1 s2 s3 HB8 HG0 HGM CM HC
  have hcp : (0 : Int) < cp + 1 := by omega
  have hcp0 : ¬ (cp + 1 = 0) := by omega
  go_upto_region 5 with (fail)
  rcases (by omega : a % 8 = 0 ∨ a % 8 = 1 ∨ a % 8 = 2 ∨ a % 8 = 3 ∨ a % 8 = 4 ∨ a % 8 = 5 ∨ a % 8 = 6 ∨ a % 8 = 7) with hr | hr | hr | hr | hr | hr | hr | hr
  · have HE : Hid (opM ⟨cp, cf, cs, cc⟩ a b d = ⟨1, 0, 0, 0, 0, []⟩) := by unfold Hid opM; simp [hr]
    have b9 : Blk wa h 31 [.int .i64 1, .int .i64 0, .int .i64 0, .int .i64 0, .int .i64 0, .slice none 0 0] := by have := HB9.out; rw [hr] at this; exact this
    have b8 := HB8'.out
    have r0 := b9.cell 0
    have r1 := b9.cell 1
    have r2 := b9.cell 2
    have r3 := b9.cell 3
    have r4 := b9.cell 4
    have r5 := b9.cell 5
    simp only [List.getElem?_cons_zero, List.getElem?_cons_succ] at r0 r1 r2 r3 r4 r5
    clear HB9 HB8'
    go_upto_region 20 with (fail)
    clear r0 r1 r2 r3 r4 r5 s0
    have q9 : Blk wa h 31 [.int .i64 1, .int .i64 0, .int .i64 0, .int .i64 0, .int .i64 0, .slice none 0 0] := b9
    have q8 := b8
    have hw : Grow w wa := HWA.out
    have HWX := Lib.hid hw
    clear hw HWA
    have r0 := q9.cell 0
    have r1 := q9.cell 1
    have r2 := q9.cell 2
    have r3 := q9.cell 3
    have r4 := q9.cell 4
    have r5 := q9.cell 5
    simp only [List.getElem?_cons_zero, List.getElem?_cons_succ] at r0 r1 r2 r3 r4 r5
    go_wp2_with (refine wpList_store_row rfl 31 _ _ rfl (g + 1) #[.int .i64 1, .int .i64 0, .int .i64 0, .int .i64 0, .int .i64 0, .slice none 0 0] rfl rfl _ _ q8 op_size rfl (by simp [Value.oneCell']) ?_)
    refine ret_op (g := g + 1) rfl rfl (set_row q8 _).1 rfl ?_
    exact op_fin HE.out rfl HGE.out HWX.out q8 (Dat.nil _ _ _)
  · have HE : Hid (opM ⟨cp, cf, cs, cc⟩ a b d = ⟨2, b % (cp + 1), 0, 0, 0, []⟩) := by unfold Hid opM; simp [hr]
    have b9 : Blk wa h 31 [.int .i64 2, .int .i64 0, .int .i64 0, .int .i64 0, .int .i64 0, .slice none 0 0] := by have := HB9.out; rw [hr] at this; exact this
    have b8 := HB8'.out
    have r0 := b9.cell 0
    have r1 := b9.cell 1
    have r2 := b9.cell 2
    have r3 := b9.cell 3
    have r4 := b9.cell 4
    have r5 := b9.cell 5
    simp only [List.getElem?_cons_zero, List.getElem?_cons_succ] at r0 r1 r2 r3 r4 r5
    have z1 := b9.frozen 1
    clear HB9 HB8'
    go_upto_region 20 with (fail)
    clear r0 r1 r2 r3 r4 r5 s0 z1
    have q9 : Blk (wa.setCell ⟨h, 1, none⟩ (.int .i64 (b % (cp + 1)))) h 31 [.int .i64 2, .int .i64 (b % (cp + 1)), .int .i64 0, .int .i64 0, .int .i64 0, .slice none 0 0] := (Blk.set (b9) 1 (.int .i64 (b % (cp + 1))))
    have q8 : Blk (wa.setCell ⟨h, 1, none⟩ (.int .i64 (b % (cp + 1)))) (g + 1) 31 [.int .i64 0, .int .i64 0, .int .i64 0, .int .i64 0, .int .i64 0, .slice none 0 0] := (Blk.other (b8) (p := ⟨h, 1, none⟩) (by have := HGH.out; show g + 1 ≠ h; omega) (.int .i64 (b % (cp + 1))))
    have hw : Grow w (wa.setCell ⟨h, 1, none⟩ (.int .i64 (b % (cp + 1)))) := (Kept.setCell (HWA.out) (p := ⟨h, 1, none⟩) (fun hl => by have h1 := HGH.out; have h2 := HGE.out; have h3 : h < w.heap.size := hl; omega) (.int .i64 (b % (cp + 1))))
    generalize (wa.setCell ⟨h, 1, none⟩ (.int .i64 (b % (cp + 1)))) = wx at q9 q8 hw ⊢
    have HWX := Lib.hid hw
    clear hw HWA
    have r0 := q9.cell 0
    have r1 := q9.cell 1
    have r2 := q9.cell 2
    have r3 := q9.cell 3
    have r4 := q9.cell 4
    have r5 := q9.cell 5
    simp only [List.getElem?_cons_zero, List.getElem?_cons_succ] at r0 r1 r2 r3 r4 r5
    go_wp2_with (refine wpList_store_row rfl 31 _ _ rfl (g + 1) #[.int .i64 2, .int .i64 (b % (cp + 1)), .int .i64 0, .int .i64 0, .int .i64 0, .slice none 0 0] rfl rfl _ _ q8 op_size rfl (by simp [Value.oneCell']) ?_)
    refine ret_op (g := g + 1) rfl rfl (set_row q8 _).1 rfl ?_
    exact op_fin HE.out rfl HGE.out HWX.out q8 (Dat.nil _ _ _)
  · have HE : Hid (opM ⟨cp, cf, cs, cc⟩ a b d = ⟨3, 0, b % 7, d % 16, d / 16, []⟩) := by unfold Hid opM; simp [hr]
    have b9 : Blk wa h 31 [.int .i64 3, .int .i64 0, .int .i64 0, .int .i64 0, .int .i64 0, .slice none 0 0] := by have := HB9.out; rw [hr] at this; exact this
    have b8 := HB8'.out
    have r0 := b9.cell 0
    have r1 := b9.cell 1
    have r2 := b9.cell 2
    have r3 := b9.cell 3
    have r4 := b9.cell 4
    have r5 := b9.cell 5
    simp only [List.getElem?_cons_zero, List.getElem?_cons_succ] at r0 r1 r2 r3 r4 r5
    have z2 := b9.frozen 2
    have z3 := b9.frozen 3
    have z4 := b9.frozen 4
    clear HB9 HB8'
    go_upto_region 20 with (fail)
    clear r0 r1 r2 r3 r4 r5 s0 z2 z3 z4
    have q9 : Blk (((wa.setCell ⟨h, 2, none⟩ (.int .i64 (b % 7))).setCell ⟨h, 3, none⟩ (.int .i64 (d % 16))).setCell ⟨h, 4, none⟩ (.int .i64 (d / 16))) h 31 [.int .i64 3, .int .i64 0, .int .i64 (b % 7), .int .i64 (d % 16), .int .i64 (d / 16), .slice none 0 0] := (Blk.set ((Blk.set ((Blk.set (b9) 2 (.int .i64 (b % 7)))) 3 (.int .i64 (d % 16)))) 4 (.int .i64 (d / 16)))
    have q8 : Blk (((wa.setCell ⟨h, 2, none⟩ (.int .i64 (b % 7))).setCell ⟨h, 3, none⟩ (.int .i64 (d % 16))).setCell ⟨h, 4, none⟩ (.int .i64 (d / 16))) (g + 1) 31 [.int .i64 0, .int .i64 0, .int .i64 0, .int .i64 0, .int .i64 0, .slice none 0 0] := (Blk.other ((Blk.other ((Blk.other (b8) (p := ⟨h, 2, none⟩) (by have := HGH.out; show g + 1 ≠ h; omega) (.int .i64 (b % 7)))) (p := ⟨h, 3, none⟩) (by have := HGH.out; show g + 1 ≠ h; omega) (.int .i64 (d % 16)))) (p := ⟨h, 4, none⟩) (by have := HGH.out; show g + 1 ≠ h; omega) (.int .i64 (d / 16)))
    have hw : Grow w (((wa.setCell ⟨h, 2, none⟩ (.int .i64 (b % 7))).setCell ⟨h, 3, none⟩ (.int .i64 (d % 16))).setCell ⟨h, 4, none⟩ (.int .i64 (d / 16))) := (Kept.setCell ((Kept.setCell ((Kept.setCell (HWA.out) (p := ⟨h, 2, none⟩) (fun hl => by have h1 := HGH.out; have h2 := HGE.out; have h3 : h < w.heap.size := hl; omega) (.int .i64 (b % 7)))) (p := ⟨h, 3, none⟩) (fun hl => by have h1 := HGH.out; have h2 := HGE.out; have h3 : h < w.heap.size := hl; omega) (.int .i64 (d % 16)))) (p := ⟨h, 4, none⟩) (fun hl => by have h1 := HGH.out; have h2 := HGE.out; have h3 : h < w.heap.size := hl; omega) (.int .i64 (d / 16)))
    generalize (((wa.setCell ⟨h, 2, none⟩ (.int .i64 (b % 7))).setCell ⟨h, 3, none⟩ (.int .i64 (d % 16))).setCell ⟨h, 4, none⟩ (.int .i64 (d / 16))) = wx at q9 q8 hw ⊢
    have HWX := Lib.hid hw
    clear hw HWA
    have r0 := q9.cell 0
    have r1 := q9.cell 1
    have r2 := q9.cell 2
    have r3 := q9.cell 3
    have r4 := q9.cell 4
    have r5 := q9.cell 5
    simp only [List.getElem?_cons_zero, List.getElem?_cons_succ] at r0 r1 r2 r3 r4 r5
    go_wp2_with (refine wpList_store_row rfl 31 _ _ rfl (g + 1) #[.int .i64 3, .int .i64 0, .int .i64 (b % 7), .int .i64 (d % 16), .int .i64 (d / 16), .slice none 0 0] rfl rfl _ _ q8 op_size rfl (by simp [Value.oneCell']) ?_)
    refine ret_op (g := g + 1) rfl rfl (set_row q8 _).1 rfl ?_
    exact op_fin HE.out rfl HGE.out HWX.out q8 (Dat.nil _ _ _)
  · have HE : Hid (opM ⟨cp, cf, cs, cc⟩ a b d = ⟨4, 0, b % 7, d % 16, 0, List.replicate (d / 16).toNat b⟩) := by unfold Hid opM; simp [hr]
    have b9 : Blk wa h 31 [.int .i64 4, .int .i64 0, .int .i64 0, .int .i64 0, .int .i64 0, .slice none 0 0] := by have := HB9.out; rw [hr] at this; exact this
    have b8 := HB8'.out
    obtain ⟨N, hN⟩ := Int.eq_ofNat_of_zero_le (show 0 ≤ d / 16 by omega)
    have hN15 : N ≤ 15 := by omega
    have HNN : Hid ((d / 16).toNat = N) := by unfold Hid; omega
    have HN15 := Lib.hid hN15
    have r0 := b9.cell 0
    have r1 := b9.cell 1
    have r2 := b9.cell 2
    have r3 := b9.cell 3
    have r4 := b9.cell 4
    have r5 := b9.cell 5
    simp only [List.getElem?_cons_zero, List.getElem?_cons_succ] at r0 r1 r2 r3 r4 r5
    have z2 := b9.frozen 2
    have z3 := b9.frozen 3
    clear HB9 HB8'
    go_upto_region 14 with (fail)
    clear r0 r1 r2 r3 r4 r5 s0 z2 z3 hr
    have q9 : Blk ((wa.setCell ⟨h, 2, none⟩ (.int .i64 (b % 7))).setCell ⟨h, 3, none⟩ (.int .i64 (d % 16))) h 31 [.int .i64 4, .int .i64 0, .int .i64 (b % 7), .int .i64 (d % 16), .int .i64 0, .slice none 0 0] := (Blk.set ((Blk.set (b9) 2 (.int .i64 (b % 7)))) 3 (.int .i64 (d % 16)))
    have q8 : Blk ((wa.setCell ⟨h, 2, none⟩ (.int .i64 (b % 7))).setCell ⟨h, 3, none⟩ (.int .i64 (d % 16))) (g + 1) 31 [.int .i64 0, .int .i64 0, .int .i64 0, .int .i64 0, .int .i64 0, .slice none 0 0] := (Blk.other ((Blk.other (b8) (p := ⟨h, 2, none⟩) (by have := HGH.out; show g + 1 ≠ h; omega) (.int .i64 (b % 7)))) (p := ⟨h, 3, none⟩) (by have := HGH.out; show g + 1 ≠ h; omega) (.int .i64 (d % 16)))
    have hw : Grow w ((wa.setCell ⟨h, 2, none⟩ (.int .i64 (b % 7))).setCell ⟨h, 3, none⟩ (.int .i64 (d % 16))) := (Kept.setCell ((Kept.setCell (HWA.out) (p := ⟨h, 2, none⟩) (fun hl => by have h1 := HGH.out; have h2 := HGE.out; have h3 : h < w.heap.size := hl; omega) (.int .i64 (b % 7)))) (p := ⟨h, 3, none⟩) (fun hl => by have h1 := HGH.out; have h2 := HGE.out; have h3 : h < w.heap.size := hl; omega) (.int .i64 (d % 16)))
    generalize ((wa.setCell ⟨h, 2, none⟩ (.int .i64 (b % 7))).setCell ⟨h, 3, none⟩ (.int .i64 (d % 16))) = wx at q9 q8 hw ⊢
    have HWX := Lib.hid hw
    clear hw HWA
    have HB9 := Lib.hid q9
    have HB8 := Lib.hid q8
    have HLT : Hid (w.heap.size ≤ h + 1 ∧ g + 1 < h) := by have h1 := HGH.out; have h2 := HGE.out; exact ⟨by omega, by omega⟩
    clear q9 q8 b9 b8
    rw [hN]
    go_wp2
    go_loopg [12] N (fun gx i wr => ∃ (j : Nat) (v : Value), j + gx = N ∧ i = .int .i64 (j : Int) ∧ Blk wr h 31 [.int .i64 4, .int .i64 0, .int .i64 (b % 7), .int .i64 (d % 16), .int .i64 0, v] ∧ Blk wr (g + 1) 31 [.int .i64 0, .int .i64 0, .int .i64 0, .int .i64 0, .int .i64 0, .slice none 0 0] ∧ wr.ownsRow (h + 1) 5 1 v j ((List.replicate j b).map fun z => .int .u8 z) ∧ Grow w wr)
    case atStart => exact ⟨0, .slice none 0 0, by omega, rfl, HB9.out, HB8.out, World.ownsRow_nil _ _ _ _, HWX.out⟩
    case round =>
      clear HB9 HB8 HWX
      obtain ⟨j, v, hg, rfl, b9, b8, hown, hgr⟩ := hrel
      have HG := Lib.hid hg
      have HO := Lib.hid hown
      have HGR := Lib.hid hgr
      have HB9 := Lib.hid b9
      have HB8 := Lib.hid b8
      have r0 := b9.cell 0
      have r1 := b9.cell 1
      have r2 := b9.cell 2
      have r3 := b9.cell 3
      have r4 := b9.cell 4
      have r5 := b9.cell 5
      simp only [List.getElem?_cons_zero, List.getElem?_cons_succ] at r0 r1 r2 r3 r4 r5
      clear hg hown hgr b8
      by_cases hj : j < N
      · have hjz : (j : Int) < (N : Int) := by omega
        have r5' : (wr.alloc (.cells #[.int .u8 b] 5)).cell? ⟨h, 5, none⟩ = some v := ((Kept.refl (fun _ => False) wr).alloc _).cellN r5 id
        have HSZ : Hid (h + 1 ≤ wr.heap.size) := HB9.out.lt
        have HJ := Lib.hid hj
        clear b9 r0 r1 r2 r3 r4
        go_upto_region 16 with (at_builtin; refine wpList_append_one rfl _ _ 22 rfl (h + 1) 5 (.int .u8 0) 1 Try.underlying22 infoU rfl _ j _ rfl (World.ownsRow.alloc HO.out _) wr.heap.size (.int .u8 b) rfl (cell_new1 _ _ _) rfl (by have := HN15.out; have := HJ.out; unfold maxLen; omega) (by have := HN15.out; have := HJ.out; omega) (by have := HSZ.out; simp; omega) ?_; intro g4 cap4 w4 hown4 hbel; have HOW4 := Lib.hid hown4; have HBL := Lib.hid hbel; have e5 : w4.cell? ⟨h, 5, none⟩ = some v := (hbel.cell (show h < h + 1 by omega)).trans r5'; have mz : w4.frozen? ⟨h, 5, none⟩ = false := (((HB9.out.alloc _).below hbel (by omega)).frozen 5); clear hown4 hbel r5')
        clear e5 mz
        have b9 := ((HB9.out.alloc (.cells #[.int .u8 b] 5)).below HBL.out (by omega)).set 5 (.slice (some ⟨g4, 0, none⟩) (j + 1) cap4)
        have b8 := ((HB8.out.alloc (.cells #[.int .u8 b] 5)).below HBL.out (by have := HLT.out; omega)).other (p := ⟨h, 5, none⟩) (by have := HLT.out; show g + 1 ≠ h; omega) (.slice (some ⟨g4, 0, none⟩) (j + 1) cap4)
        have hown := ownsRow_setCell_below HOW4.out (a := ⟨h, 5, none⟩) (show h < h + 1 by omega) (.slice (some ⟨g4, 0, none⟩) (j + 1) cap4)
        have hgr : Grow w (w4.setCell ⟨h, 5, none⟩ (.slice (some ⟨g4, 0, none⟩) (j + 1) cap4)) := (grow_below (HGR.out.alloc _) HLT.out.1 HBL.out).setCell (p := ⟨h, 5, none⟩) (fun hl => by have h1 := HGH.out; have h2 := HGE.out; have h3 : h < w.heap.size := hl; omega) _
        rw [rep_succ] at hown
        generalize w4.setCell ⟨h, 5, none⟩ (.slice (some ⟨g4, 0, none⟩) (j + 1) cap4) = w5 at b9 b8 hown hgr ⊢
        simp only [List.set_cons_succ, List.set_cons_zero] at b9
        have H9 := Lib.hid b9
        have H8 := Lib.hid b8
        have HOW := Lib.hid hown
        have HGW := Lib.hid hgr
        clear b9 b8 hown hgr HOW4 HBL HB9 HB8 HO HGR r5
        go_wp2
        go_roundg (gk - 1)
        case measure => have := HG.out; have := HJ.out; omega
        case rel => exact ⟨j + 1, _, by have := HG.out; have := HJ.out; omega, by go_num, H9.out, H8.out, HOW.out, HGW.out⟩
      · obtain rfl : j = N := by have := HG.out; omega
        obtain ⟨vA, vc, rfl, hsl⟩ := Sl.of_row1 (k := .u8) HO.out
        have hdat : Dat wr (h + 1) vA j (List.replicate (d / 16).toNat b) := by rw [HNN.out]; exact ⟨hsl, rep_bytes hb _, HN15.out, fun h0 y e => by subst e; exact (HO.out.lt _ rfl).1⟩
        have HDX : Hid (Dat wr (g + 2) vA j (List.replicate (d / 16).toNat b)) := hdat.mono (by have := HLT.out; omega)
        clear hdat hsl hj
        have q8 := HB8.out
        clear HB8 HB9 HO
        go_wp2_with (refine wpList_store_row rfl 31 _ _ rfl (g + 1) #[.int .i64 4, .int .i64 0, .int .i64 (b % 7), .int .i64 (d % 16), .int .i64 0, .slice vA j vc] rfl rfl _ _ q8 op_size rfl (by simp [Value.oneCell']) ?_)
        refine ret_op (g := g + 1) rfl rfl (set_row q8 _).1 rfl ?_
        exact op_fin HE.out rfl HGE.out HGR.out q8 HDX.out
  · have HE : Hid (opM ⟨cp, cf, cs, cc⟩ a b d = ⟨5, 0, b % 7, 0, 0, []⟩) := by unfold Hid opM; simp [hr]
    have b9 : Blk wa h 31 [.int .i64 5, .int .i64 0, .int .i64 0, .int .i64 0, .int .i64 0, .slice none 0 0] := by have := HB9.out; rw [hr] at this; exact this
    have b8 := HB8'.out
    have r0 := b9.cell 0
    have r1 := b9.cell 1
    have r2 := b9.cell 2
    have r3 := b9.cell 3
    have r4 := b9.cell 4
    have r5 := b9.cell 5
    simp only [List.getElem?_cons_zero, List.getElem?_cons_succ] at r0 r1 r2 r3 r4 r5
    have z2 := b9.frozen 2
    clear HB9 HB8'
    go_upto_region 20 with (fail)
    clear r0 r1 r2 r3 r4 r5 s0 z2
    have q9 : Blk (wa.setCell ⟨h, 2, none⟩ (.int .i64 (b % 7))) h 31 [.int .i64 5, .int .i64 0, .int .i64 (b % 7), .int .i64 0, .int .i64 0, .slice none 0 0] := (Blk.set (b9) 2 (.int .i64 (b % 7)))
    have q8 : Blk (wa.setCell ⟨h, 2, none⟩ (.int .i64 (b % 7))) (g + 1) 31 [.int .i64 0, .int .i64 0, .int .i64 0, .int .i64 0, .int .i64 0, .slice none 0 0] := (Blk.other (b8) (p := ⟨h, 2, none⟩) (by have := HGH.out; show g + 1 ≠ h; omega) (.int .i64 (b % 7)))
    have hw : Grow w (wa.setCell ⟨h, 2, none⟩ (.int .i64 (b % 7))) := (Kept.setCell (HWA.out) (p := ⟨h, 2, none⟩) (fun hl => by have h1 := HGH.out; have h2 := HGE.out; have h3 : h < w.heap.size := hl; omega) (.int .i64 (b % 7)))
    generalize (wa.setCell ⟨h, 2, none⟩ (.int .i64 (b % 7))) = wx at q9 q8 hw ⊢
    have HWX := Lib.hid hw
    clear hw HWA
    have r0 := q9.cell 0
    have r1 := q9.cell 1
    have r2 := q9.cell 2
    have r3 := q9.cell 3
    have r4 := q9.cell 4
    have r5 := q9.cell 5
    simp only [List.getElem?_cons_zero, List.getElem?_cons_succ] at r0 r1 r2 r3 r4 r5
    go_wp2_with (refine wpList_store_row rfl 31 _ _ rfl (g + 1) #[.int .i64 5, .int .i64 0, .int .i64 (b % 7), .int .i64 0, .int .i64 0, .slice none 0 0] rfl rfl _ _ q8 op_size rfl (by simp [Value.oneCell']) ?_)
    refine ret_op (g := g + 1) rfl rfl (set_row q8 _).1 rfl ?_
    exact op_fin HE.out rfl HGE.out HWX.out q8 (Dat.nil _ _ _)
  · have HE : Hid (opM ⟨cp, cf, cs, cc⟩ a b d = ⟨6, b % (cp + 1), 0, 0, 0, []⟩) := by unfold Hid opM; simp [hr]
    have b9 : Blk wa h 31 [.int .i64 6, .int .i64 0, .int .i64 0, .int .i64 0, .int .i64 0, .slice none 0 0] := by have := HB9.out; rw [hr] at this; exact this
    have b8 := HB8'.out
    have r0 := b9.cell 0
    have r1 := b9.cell 1
    have r2 := b9.cell 2
    have r3 := b9.cell 3
    have r4 := b9.cell 4
    have r5 := b9.cell 5
    simp only [List.getElem?_cons_zero, List.getElem?_cons_succ] at r0 r1 r2 r3 r4 r5
    have z1 := b9.frozen 1
    clear HB9 HB8'
    go_upto_region 20 with (fail)
    clear r0 r1 r2 r3 r4 r5 s0 z1
    have q9 : Blk (wa.setCell ⟨h, 1, none⟩ (.int .i64 (b % (cp + 1)))) h 31 [.int .i64 6, .int .i64 (b % (cp + 1)), .int .i64 0, .int .i64 0, .int .i64 0, .slice none 0 0] := (Blk.set (b9) 1 (.int .i64 (b % (cp + 1))))
    have q8 : Blk (wa.setCell ⟨h, 1, none⟩ (.int .i64 (b % (cp + 1)))) (g + 1) 31 [.int .i64 0, .int .i64 0, .int .i64 0, .int .i64 0, .int .i64 0, .slice none 0 0] := (Blk.other (b8) (p := ⟨h, 1, none⟩) (by have := HGH.out; show g + 1 ≠ h; omega) (.int .i64 (b % (cp + 1))))
    have hw : Grow w (wa.setCell ⟨h, 1, none⟩ (.int .i64 (b % (cp + 1)))) := (Kept.setCell (HWA.out) (p := ⟨h, 1, none⟩) (fun hl => by have h1 := HGH.out; have h2 := HGE.out; have h3 : h < w.heap.size := hl; omega) (.int .i64 (b % (cp + 1))))
    generalize (wa.setCell ⟨h, 1, none⟩ (.int .i64 (b % (cp + 1)))) = wx at q9 q8 hw ⊢
    have HWX := Lib.hid hw
    clear hw HWA
    have r0 := q9.cell 0
    have r1 := q9.cell 1
    have r2 := q9.cell 2
    have r3 := q9.cell 3
    have r4 := q9.cell 4
    have r5 := q9.cell 5
    simp only [List.getElem?_cons_zero, List.getElem?_cons_succ] at r0 r1 r2 r3 r4 r5
    go_wp2_with (refine wpList_store_row rfl 31 _ _ rfl (g + 1) #[.int .i64 6, .int .i64 (b % (cp + 1)), .int .i64 0, .int .i64 0, .int .i64 0, .slice none 0 0] rfl rfl _ _ q8 op_size rfl (by simp [Value.oneCell']) ?_)
    refine ret_op (g := g + 1) rfl rfl (set_row q8 _).1 rfl ?_
    exact op_fin HE.out rfl HGE.out HWX.out q8 (Dat.nil _ _ _)
  · have HE : Hid (opM ⟨cp, cf, cs, cc⟩ a b d = ⟨7, 0, 0, 0, 0, []⟩) := by unfold Hid opM; simp [hr]
    have b9 : Blk wa h 31 [.int .i64 7, .int .i64 0, .int .i64 0, .int .i64 0, .int .i64 0, .slice none 0 0] := by have := HB9.out; rw [hr] at this; exact this
    have b8 := HB8'.out
    have r0 := b9.cell 0
    have r1 := b9.cell 1
    have r2 := b9.cell 2
    have r3 := b9.cell 3
    have r4 := b9.cell 4
    have r5 := b9.cell 5
    simp only [List.getElem?_cons_zero, List.getElem?_cons_succ] at r0 r1 r2 r3 r4 r5
    clear HB9 HB8'
    go_upto_region 20 with (fail)
    clear r0 r1 r2 r3 r4 r5 s0
    have q9 : Blk wa h 31 [.int .i64 7, .int .i64 0, .int .i64 0, .int .i64 0, .int .i64 0, .slice none 0 0] := b9
    have q8 := b8
    have hw : Grow w wa := HWA.out
    have HWX := Lib.hid hw
    clear hw HWA
    have r0 := q9.cell 0
    have r1 := q9.cell 1
    have r2 := q9.cell 2
    have r3 := q9.cell 3
    have r4 := q9.cell 4
    have r5 := q9.cell 5
    simp only [List.getElem?_cons_zero, List.getElem?_cons_succ] at r0 r1 r2 r3 r4 r5
    go_wp2_with (refine wpList_store_row rfl 31 _ _ rfl (g + 1) #[.int .i64 7, .int .i64 0, .int .i64 0, .int .i64 0, .int .i64 0, .slice none 0 0] rfl rfl _ _ q8 op_size rfl (by simp [Value.oneCell']) ?_)
    refine ret_op (g := g + 1) rfl rfl (set_row q8 _).1 rfl ?_
    exact op_fin HE.out rfl HGE.out HWX.out q8 (Dat.nil _ _ _)
  · have HE : Hid (opM ⟨cp, cf, cs, cc⟩ a b d = ⟨8, b % (cp + 1), 0, 0, 0, []⟩) := by unfold Hid opM; simp [hr]
    have b9 : Blk wa h 31 [.int .i64 8, .int .i64 0, .int .i64 0, .int .i64 0, .int .i64 0, .slice none 0 0] := by have := HB9.out; rw [hr] at this; exact this
    have b8 := HB8'.out
    have r0 := b9.cell 0
    have r1 := b9.cell 1
    have r2 := b9.cell 2
    have r3 := b9.cell 3
    have r4 := b9.cell 4
    have r5 := b9.cell 5
    simp only [List.getElem?_cons_zero, List.getElem?_cons_succ] at r0 r1 r2 r3 r4 r5
    have z1 := b9.frozen 1
    clear HB9 HB8'
    go_upto_region 20 with (fail)
    clear r0 r1 r2 r3 r4 r5 s0 z1
    have q9 : Blk (wa.setCell ⟨h, 1, none⟩ (.int .i64 (b % (cp + 1)))) h 31 [.int .i64 8, .int .i64 (b % (cp + 1)), .int .i64 0, .int .i64 0, .int .i64 0, .slice none 0 0] := (Blk.set (b9) 1 (.int .i64 (b % (cp + 1))))
    have q8 : Blk (wa.setCell ⟨h, 1, none⟩ (.int .i64 (b % (cp + 1)))) (g + 1) 31 [.int .i64 0, .int .i64 0, .int .i64 0, .int .i64 0, .int .i64 0, .slice none 0 0] := (Blk.other (b8) (p := ⟨h, 1, none⟩) (by have := HGH.out; show g + 1 ≠ h; omega) (.int .i64 (b % (cp + 1))))
    have hw : Grow w (wa.setCell ⟨h, 1, none⟩ (.int .i64 (b % (cp + 1)))) := (Kept.setCell (HWA.out) (p := ⟨h, 1, none⟩) (fun hl => by have h1 := HGH.out; have h2 := HGE.out; have h3 : h < w.heap.size := hl; omega) (.int .i64 (b % (cp + 1))))
    generalize (wa.setCell ⟨h, 1, none⟩ (.int .i64 (b % (cp + 1)))) = wx at q9 q8 hw ⊢
    have HWX := Lib.hid hw
    clear hw HWA
    have r0 := q9.cell 0
    have r1 := q9.cell 1
    have r2 := q9.cell 2
    have r3 := q9.cell 3
    have r4 := q9.cell 4
    have r5 := q9.cell 5
    simp only [List.getElem?_cons_zero, List.getElem?_cons_succ] at r0 r1 r2 r3 r4 r5
    go_wp2_with (refine wpList_store_row rfl 31 _ _ rfl (g + 1) #[.int .i64 8, .int .i64 (b % (cp + 1)), .int .i64 0, .int .i64 0, .int .i64 0, .slice none 0 0] rfl rfl _ _ q8 op_size rfl (by simp [Value.oneCell']) ?_)
    refine ret_op (g := g + 1) rfl rfl (set_row q8 _).1 rfl ?_
    exact op_fin HE.out rfl HGE.out HWX.out q8 (Dat.nil _ _ _)
end
end Go.Proofs.Ytigcjcgdakoonaa.ScO
