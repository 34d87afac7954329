/-
  Texts behind the statements of this seat: part 7.
-/
import Derived.Test.YtbnkpnllgoghnaaGreatQf
import Derived.Test.YtbnkpnllgoghnaaGreatQe
import Derived.Lib.SliceRun
import Derived.Test.YtbnkpnllgoghnaaGreatQd
import Derived.Test.YtbnkpnllgoghnaaGreatQb
import Derived.RangeFuncNested
import Derived.RangeFuncBound
import Derived.RangeFuncCalls
import Derived.RangeFuncLeaves
import Derived.RangeFuncBox
import Derived.Shelf.Abstract
import Derived.Shelf.RegionOpen
import Derived.WalkKit
import Derived.OwnWalkIn
import Derived.TacticsInMore
import Derived.LoopNIn
import Derived.LoopIn
import Derived.Test.YtbnkpnllgoghnaaGreatRows
import Derived.Test.YtbnkpnllgoghnaaGreatQa
set_option linter.unusedVariables false

namespace Go.Proofs.YtbnkpnllgoghnaaGreat.PmT
open Go.ChangeShapes Go.WideShapes Go.ChangeAt Go.RowKit
open Go.Proofs.YtbnkpnllgoghnaaGreat.Mem Go.Proofs.YtbnkpnllgoghnaaGreat.Blk Go.Proofs.YtbnkpnllgoghnaaGreat.Cells Go.Proofs.YtbnkpnllgoghnaaGreat.Orow Go.Proofs.YtbnkpnllgoghnaaGreat.GrC Go.Proofs.YtbnkpnllgoghnaaGreat.MdM Go.Proofs.YtbnkpnllgoghnaaGreat.MdC Go.Proofs.YtbnkpnllgoghnaaGreat.MdR Go.Proofs.YtbnkpnllgoghnaaGreat.MdD Go.Proofs.YtbnkpnllgoghnaaGreat.PmC Go.Proofs.YtbnkpnllgoghnaaGreat.PmI Go.Proofs.YtbnkpnllgoghnaaGreat.PmM Go.Proofs.YtbnkpnllgoghnaaGreat.PmP Go.Proofs.YtbnkpnllgoghnaaGreat.Stages Go.Proofs.YtbnkpnllgoghnaaGreat.Trees
open Go.Proofs.YtbnkpnllgoghnaaGreat.HdM (lst hnd cnt sum lst_eq hnd_at hnd_none hnd_cases cnt_yes cnt_no cnt_le sum_le)
/-- The data of an answer may be written. -/
def Fz (w : World) (A : Option Addr) (n : Nat) : Prop := 0 < n → ∀ x, A = some x → ∀ j, w.frozen? ⟨x.block, j, none⟩ = false
theorem fz_nil (w : World) : Fz w none 0 := fun h => absurd h (Nat.lt_irrefl 0)
theorem sl_lt {w : World} {B n : Nat} {k : IntKind} {A : Option Addr} {zs : List Int} (h : Sl w B k A n zs) (hn : 0 < n) {x : Addr} (e : A = some x) : x.block < B := by
  obtain ⟨b, off, e2, hb, _⟩ := h.2 hn
  rw [e2] at e
  injection e with e
  rw [← e]
  exact hb
theorem Fz.kept {w w' : World} {F : Nat → Prop} {A : Option Addr} {n : Nat} (h : Fz w A n) (hk : Kept F w w') (hA : 0 < n → ∀ x, A = some x → x.block < w.heap.size ∧ ¬ F x.block) : Fz w' A n := fun hn x e j => by
  obtain ⟨h1, h2⟩ := hA hn x e
  exact (hk.frozen (p := ⟨x.block, j, none⟩) h1 h2).trans (h hn x e j)
/-- The value v is the answer r; its data lie in blocks from base on, and may be written. -/
def RePV (w : World) (base : Nat) (v : Value) (r : Re) : Prop := ∃ A n cap, v = .agg #[.int .i64 r.c, .int .i64 r.p, .int .i64 r.h, .slice A n cap] ∧ Sl w w.heap.size .u8 A n r.d ∧ (0 < n → ∀ x, A = some x → base ≤ x.block) ∧ Fz w A n
theorem repv_none (w : World) (base : Nat) (c p h : Int) : RePV w base (.agg #[.int .i64 c, .int .i64 p, .int .i64 h, .slice none 0 0]) ⟨c, p, h, []⟩ :=
  ⟨none, 0, 0, rfl, Sl.nil _ _ _ _, fun h => absurd h (by omega), fz_nil w⟩
/-- What a call answers, and what it makes of the state. -/
def PPost (G : Nat → Prop) (v : Value) (w : World) (x : Re × Md) (e : Ending) (w' : World) : Prop := (∃ rv, e = .returned rv ∧ RePV w' w.heap.size rv x.1) ∧ PAt w' G v x.2 ∧ Kept G w w'
section
variable {w w0 w1 : World} {G F X : Nat → Prop} {v : Value} {gT cT gB cB gH cH r : Nat} {qb cb q cp : Nat → Nat} {a a' : Md} {k : Nat}
theorem fin_p {x y z d : Value} (hlt : ∀ k, G k → k < w.heap.size) (hb : Blk w1 r 27 [x, y, z, d]) (hr : w.heap.size ≤ r) (hs : PAt w1 G v a') (hk : Kept G w w1) (c p h : Int) :
    Blk (put4 w1 r (.int .i64 c) (.int .i64 p) (.int .i64 h) (.slice none 0 0)) r 27 [.int .i64 c, .int .i64 p, .int .i64 h, .slice none 0 0] ∧
    PPost G v w (⟨c, p, h, []⟩, a') (.returned (.agg #[.int .i64 c, .int .i64 p, .int .i64 h, .slice none 0 0])) (put4 w1 r (.int .i64 c) (.int .i64 p) (.int .i64 h) (.slice none 0 0)) := by
  refine ⟨put4_blk hb, ⟨_, rfl, repv_none _ _ _ _ _⟩, hs.kept (put4_kept w1 r _ _ _ _) fun k hG e => ?_, hk.then (put4_kept w1 r _ _ _ _) fun k hk e => ?_⟩
  · have := hlt k hG
    have e : k = r := e
    omega
  · have e : k = r := e
    omega
theorem fin_d {x y z d : Value} {A : Option Addr} {n cap : Nat} {zs : List Int} (hlt : ∀ k, G k → k < w.heap.size) (hb : Blk w1 r 27 [x, y, z, d]) (hr : w.heap.size ≤ r) (hs : PAt w1 G v a') (hk : Kept G w w1) (hz : Sl w1 w1.heap.size .u8 A n zs) (hA : 0 < n → ∀ x, A = some x → w.heap.size ≤ x.block ∧ x.block ≠ r) (hf : Fz w1 A n) :
    Blk (put4 w1 r (.int .i64 0) (.int .i64 0) (.int .i64 0) (.slice A n cap)) r 27 [.int .i64 0, .int .i64 0, .int .i64 0, .slice A n cap] ∧
    PPost G v w (⟨0, 0, 0, zs⟩, a') (.returned (.agg #[.int .i64 0, .int .i64 0, .int .i64 0, .slice A n cap])) (put4 w1 r (.int .i64 0) (.int .i64 0) (.int .i64 0) (.slice A n cap)) := by
  refine ⟨put4_blk hb, ⟨_, rfl, A, n, cap, rfl, ⟨hz.1, fun hn => ?_⟩, fun hn x e => (hA hn x e).1, hf.kept (put4_kept w1 r _ _ _ _) fun hn x e => ⟨sl_lt hz hn e, (hA hn x e).2⟩⟩, hs.kept (put4_kept w1 r _ _ _ _) fun k hG e => ?_, hk.then (put4_kept w1 r _ _ _ _) fun k hk e => ?_⟩
  · obtain ⟨b, off, e, hb, hc⟩ := hz.2 hn
    exact ⟨b, off, e, Nat.lt_of_lt_of_le hb (put4_kept w1 r _ _ _ _).size, fun j hj => (put4_kept w1 r _ _ _ _).cellN (hc j hj) (hA hn _ e).2⟩
  · have := hlt k hG
    have e : k = r := e
    omega
  · have e : k = r := e
    omega
/-- A state's box and a result's, laid at the head of a call. -/
structure Fr (w w0 : World) (s : Nat) (gT cT gB cB gH cH : Nat) (a : Md) : Prop where
  sb : Blk w0 s 64 [.slice (some ⟨gT, 0, none⟩) a.n cT, .slice (some ⟨gB, 0, none⟩) a.n cB, .slice (some ⟨gH, 0, none⟩) a.N cH]
  rb : Blk w0 (s + 1) 27 [.int .i64 0, .int .i64 0, .int .i64 0, .slice none 0 0]
  gr : Grow w w0
  sz : s = w.heap.size
theorem fr_new (w : World) (gT cT gB cB gH cH : Nat) (a : Md) : Fr w ((w.alloc (.cells #[.slice (some ⟨gT, 0, none⟩) a.n cT, .slice (some ⟨gB, 0, none⟩) a.n cB, .slice (some ⟨gH, 0, none⟩) a.N cH] 64)).alloc (.cells #[.int .i64 0, .int .i64 0, .int .i64 0, .slice none 0 0] 27)) w.heap.size gT cT gB cB gH cH a := by
  have b1 := Blk.new w 64 [.slice (some ⟨gT, 0, none⟩) a.n cT, .slice (some ⟨gB, 0, none⟩) a.n cB, .slice (some ⟨gH, 0, none⟩) a.N cH]
  have g1 : Grow w (w.alloc (.cells #[.slice (some ⟨gT, 0, none⟩) a.n cT, .slice (some ⟨gB, 0, none⟩) a.n cB, .slice (some ⟨gH, 0, none⟩) a.N cH] 64)) := (Kept.refl _ _).alloc _
  have z1 : (w.alloc (.cells #[.slice (some ⟨gT, 0, none⟩) a.n cT, .slice (some ⟨gB, 0, none⟩) a.n cB, .slice (some ⟨gH, 0, none⟩) a.N cH] 64)).heap.size = w.heap.size + 1 := by simp
  generalize w.alloc (.cells #[.slice (some ⟨gT, 0, none⟩) a.n cT, .slice (some ⟨gB, 0, none⟩) a.n cB, .slice (some ⟨gH, 0, none⟩) a.N cH] 64) = u1 at *
  have b2 := Blk.new u1 27 [.int .i64 0, .int .i64 0, .int .i64 0, .slice none 0 0]
  have g2 : Grow u1 (u1.alloc (.cells #[.int .i64 0, .int .i64 0, .int .i64 0, .slice none 0 0] 27)) := (Kept.refl _ _).alloc _
  rw [z1] at b2
  exact ⟨b1.grow g2, b2, g1.trans g2, rfl⟩
section
variable {s : Nat} (H : Fr w w0 s gT cT gB cB gH cH a)
include H
theorem Fr.s0 : w0.cell? ⟨s, 0, none⟩ = some (.slice (some ⟨gT, 0, none⟩) a.n cT) := H.sb.cell 0
theorem Fr.s1 : w0.cell? ⟨s, 1, none⟩ = some (.slice (some ⟨gB, 0, none⟩) a.n cB) := H.sb.cell 1
theorem Fr.s2 : w0.cell? ⟨s, 2, none⟩ = some (.slice (some ⟨gH, 0, none⟩) a.N cH) := H.sb.cell 2
theorem Fr.resK (hlt : ∀ k, G k → k < w.heap.size) (hk : Kept G w0 w1) : w1.cell? ⟨s + 1, 0, none⟩ = some (.int .i64 0) ∧ w1.cell? ⟨s + 1, 1, none⟩ = some (.int .i64 0) ∧ w1.cell? ⟨s + 1, 2, none⟩ = some (.int .i64 0) ∧ w1.cell? ⟨s + 1, 3, none⟩ = some (.slice none 0 0) ∧ ∀ j, w1.frozen? ⟨s + 1, j, none⟩ = false := by
  have hz := H.sz
  have hb := H.rb.kept hk fun x => by have := hlt _ x; omega
  exact ⟨hb.cell 0, hb.cell 1, hb.cell 2, hb.cell 3, hb.frozen⟩
theorem Fr.sbK (hlt : ∀ k, G k → k < w.heap.size) (hk : Kept G w0 w1) : Blk w1 s 64 [.slice (some ⟨gT, 0, none⟩) a.n cT, .slice (some ⟨gB, 0, none⟩) a.n cB, .slice (some ⟨gH, 0, none⟩) a.N cH] := by
  have hz := H.sz
  exact H.sb.kept hk fun x => by have := hlt _ x; omega
theorem Fr.fin (hlt : ∀ k, G k → k < w.heap.size) (hk : Kept G w0 w1) (hs : PAt w1 G v a') (c p h : Int) :
    Blk (put4 w1 (s + 1) (.int .i64 c) (.int .i64 p) (.int .i64 h) (.slice none 0 0)) (s + 1) 27 [.int .i64 c, .int .i64 p, .int .i64 h, .slice none 0 0] ∧
    PPost G v w (⟨c, p, h, []⟩, a') (.returned (.agg #[.int .i64 c, .int .i64 p, .int .i64 h, .slice none 0 0])) (put4 w1 (s + 1) (.int .i64 c) (.int .i64 p) (.int .i64 h) (.slice none 0 0)) := by
  have hz := H.sz
  exact fin_p hlt (H.rb.kept hk fun x => by have := hlt _ x; omega) (by omega) hs (H.gr.kept.trans hk) c p h
end
/-- What is there of the state in a frame. -/
structure St0 (w : World) (G : Nat → Prop) (gT cT gB cB gH cH : Nat) (qb cb q cp : Nat → Nat) (a : Md) : Prop where
  good : MdM.Good a
  pm : PM w G gT cT gB cB gH cH qb cb q cp a
  lt : ∀ k, G k → k < w.heap.size
theorem St0.at_ (h : St0 w G gT cT gB cB gH cH qb cb q cp a) : PAt w G (sval gT cT gB cB gH cH a) a := ⟨h.good, gT, cT, gB, cB, gH, cH, qb, cb, q, cp, rfl, h.pm⟩
theorem free_hnd (a : Md) (k : Nat) : hnd (a.H k) 6 = a.free k := rfl
theorem least_gap {a : Md} (h : a.gap < a.n) : least a.n a.T = (a.gap : Int) := if_neg (by have : lst (fun i => if a.T i then (0 : Int) else -1) a.n < a.n := h; omega)
theorem least_full {a : Md} (h : a.gap = a.n) : least a.n a.T = -1 := if_pos h
theorem free_good (_g : MdM.Good a) (_hk : k < a.N) : a.free k = -1 ∨ ∃ j : Nat, j < 6 ∧ a.free k = (j : Int) ∧ a.H k j = -1 := by
  rcases hnd_cases (a.H k) 6 with ⟨e, _⟩ | ⟨j, hj, e, h⟩
  · exact .inl e
  · exact .inr ⟨j, hj, e, h.1⟩
set_option maxHeartbeats 4000000 in
theorem create_any (h : St0 w G gT cT gB cB gH cH qb cb q cp a) (hk : k < a.N) : Calls Tryz.prog 130 #[sval gT cT gB cB gH cH a, .slice (some ⟨q k, 0, none⟩) 6 (cp k)] w (PPost G (sval gT cT gB cB gH cH a) w (a.new k)) := by
  have HS := Lib.hid h
  have HK := Lib.hid hk
  have HF := Lib.hid (fr_new w gT cT gB cB gH cH a)
  obtain ⟨P, hP⟩ : ∃ P, P = PPost G (sval gT cT gB cB gH cH a) w (a.new k) := ⟨_, rfl⟩
  have HP := Lib.hid hP
  rw [← hP]
  clear h hk hP
  go_enter Tryz.func130, Tryz.ntmps130
  go_upto_region 1 with (fail)
  generalize (w.alloc (.cells #[.slice (some ⟨gT, 0, none⟩) a.n cT, .slice (some ⟨gB, 0, none⟩) a.n cB, .slice (some ⟨gH, 0, none⟩) a.N cH] 64)).alloc (.cells #[.int .i64 0, .int .i64 0, .int .i64 0, .slice none 0 0] 27) = w0 at *
  generalize w.heap.size = s at HF ⊢
  have HPM := Lib.hid (HS.out.pm.kept HF.out.gr fun _ _ x => x)
  have q0 := up_cell (F := fun _ => False) (w := w0.drew) (p := ⟨s, 0, none⟩) HF.out.s0 id
  refine wp_region_stages Grow (kept_refl _) (kept_trans _) [([0, 2, 3], 1), ([], 4)] [5, 6] (by kernel_rfl) (by kernel_rfl) ?_
  simp only [selSt, sel, List.map_cons, List.map_nil, List.getD_cons_succ, List.getD_cons_zero]
  refine st_cons fun K1 hK1 => ?_
  repeat (go_big_quiet_step (fail))
  refine wpQuiet_nil ?_
  clear q0
  have HI := Lib.hid (index_any ((HPM.out.rb k HK.out).kept (Kept.drew' w0 (F := fun _ => False)) id))
  have HL := Lib.hid (least_any (HPM.out.tb.kept (Kept.drew' w0 (F := fun _ => False)) id) (by have := HS.out.good.n; omega))
  rw [free_hnd] at HI
  go_wp2_with (go_at_call 169; (with_reducible refine HI.out.mono ?_); rintro e wi ⟨rfl, rfl⟩)
  refine norm_up (hK1 _ _ (Kept.refl _ _) ?_)
  clear hK1 K1
  refine st_cons fun K2 hK2 => ?_
  refine wpQuiet_nil ?_
  go_wp2_with (go_at_call 170; (with_reducible refine HL.out.mono ?_); rintro e wi ⟨rfl, rfl⟩)
  refine norm_up (hK2 _ _ (Kept.refl _ _) ?_)
  clear hK2 K2
  refine st_nil fun K3 hK3 => ?_
  repeat (go_big_quiet_step (fail))
  refine wpQuiet_nil (hK3 _ ?_)
  clear hK3 K3 HI HL
  have HGD : Hid (Grow w0 w0.drew) := (Kept.refl _ _).drew
  have HPM1 := Lib.hid (HPM.out.kept HGD.out fun _ _ x => x)
  generalize w0.drew = w1 at HGD HPM1 ⊢
  rcases free_good HS.out.good HK.out with hf | ⟨j, hj, hf, hm⟩
  · have e1 : a.new k = (err 4, a) := if_pos hf
    rw [hf]
    rw [e1] at HP
    clear hf e1
    go_wp2_with (go_at_call 76; (with_reducible refine (code_any _ 4).mono ?_); rintro e wc ⟨rfl, hgc⟩; have HGC := Lib.hid (HGD.out.trans hgc); clear hgc; obtain ⟨t0, t1, t2, t3, tf⟩ := HF.out.resK (G := G) HS.out.lt (Grow.kept HGC.out))
    rw [HP.out]
    have hfin := HF.out.fin HS.out.lt (Grow.kept HGC.out) (HS.out.at_.grow (HF.out.gr.trans HGC.out)) 4 0 0
    exact ret_res rfl rfl hfin.1 rfl hfin.2
  · have hj1 : ((j : Int) == -1) = false := by simp <;> omega
    have hnf : a.free k ≠ -1 := by omega
    by_cases hga : a.gap = a.n
    · have e1 : a.new k = (err 3, a) := by unfold Md.new; rw [if_neg hnf, if_pos hga]
      rw [hf, least_full hga]
      rw [e1] at HP
      clear hf e1 hnf hga hm
      go_wp2_with (go_at_call 76; (with_reducible refine (code_any _ 3).mono ?_); rintro e wc ⟨rfl, hgc⟩; have HGC := Lib.hid (HGD.out.trans hgc); clear hgc; obtain ⟨t0, t1, t2, t3, tf⟩ := HF.out.resK (G := G) HS.out.lt (Grow.kept HGC.out))
      rw [HP.out]
      have hfin := HF.out.fin HS.out.lt (Grow.kept HGC.out) (HS.out.at_.grow (HF.out.gr.trans HGC.out)) 3 0 0
      exact ret_res rfl rfl hfin.1 rfl hfin.2
    · have hgl : a.gap < a.n := Nat.lt_of_le_of_ne (gap_le a) hga
      have HGT := Lib.hid (gap_free (a := a) rfl hgl)
      have HN0 := Lib.hid (HS.out.good.zer _ hgl HGT.out)
      rw [hf, least_gap hgl]
      have e1 : a.new k = (⟨0, a.gap, a.free k, []⟩, (a.putT a.gap true).putH k (a.free k).toNat a.gap) := by unfold Md.new; rw [if_neg hnf, if_neg hga]
      rw [hf, Int.toNat_natCast] at e1
      rw [e1] at HP
      have HGN := Lib.hid ((HS.out.good.putT a.gap true (.inl rfl)).putH k j (p := (a.gap : Int)) (.inr ⟨a.gap, rfl, hgl, upd_same _ _ _⟩))
      have HPT : Hid (a.putT a.gap true = ⟨a.n, a.N, upd a.T a.gap true, a.B, a.H⟩) := by
        unfold Md.putT
        congr 1
        funext i
        unfold upd
        split
        · rename_i e; rw [e, HN0.out]
        · rfl
      rw [HPT.out] at HP HGN
      generalize a.gap = g at *
      have hglz : (g : Int) < (a.n : Int) := by omega
      have hgb : ((g : Int) == -1) = false := by simp <;> omega
      have hjz : (j : Int) < 6 := by omega
      have z0 := HF.out.s0
      have z0 := HGD.out.cellN z0 id
      have r1 := HPM1.out.tb.cell (i := g) (by omega)
      have f1 := HPM1.out.tb.frozen g
      unfold tcell at r1
      rw [HGT.out] at r1
      have HS2 := Lib.hid (HPM1.out.flag g true)
      have HK2 : Hid (Kept G w1 (w1.setCell ⟨gT, g, none⟩ (.bool true))) := (kept_set w1 gT g (.bool true)).mono fun x _ e => by rw [e]; exact HPM1.out.inG.1
      clear hf e1 hnf hga hgl HN0 HGT HPT HPM
      go_upto_region 7 with (fail)
      clear r1 f1 z0
      generalize w1.setCell ⟨gT, g, none⟩ (.bool true) = w2 at HS2 HK2 ⊢
      have r2 := hcell_get (HS2.out.rb k HK.out) hj
      have f2 := (HS2.out.rb k HK.out).frozen j
      dsimp only at r2
      rw [hm] at r2
      have HS3 := Lib.hid (HS2.out.putH HK.out j (g : Int))
      have HK3 : Hid (Kept G w1 (w2.setCell ⟨q k, j, none⟩ (.int .i64 (g : Int)))) := HK2.out.trans ((kept_set w2 (q k) j _).mono fun x _ e => by rw [e]; exact HS2.out.qG k HK.out)
      clear hm hj
      go_upto_region 8 with (fail)
      clear r2 f2
      generalize w2.setCell ⟨q k, j, none⟩ (.int .i64 (g : Int)) = w3 at HS3 HK3 ⊢
      have HK4 := Lib.hid (HGD.out.kept.trans HK3.out)
      obtain ⟨t0, t1, t2, t3, tf⟩ := HF.out.resK (G := G) HS.out.lt HK4.out
      go_wp2
      rw [HP.out]
      have hfin := HF.out.fin HS.out.lt HK4.out ⟨HGN.out, gT, cT, gB, cB, gH, cH, qb, cb, q, cp, rfl, HS3.out⟩ 0 (g : Int) (j : Int)
      exact ret_res rfl rfl hfin.1 rfl hfin.2
end
end Go.Proofs.YtbnkpnllgoghnaaGreat.PmT

namespace Go.Proofs.YtbnkpnllgoghnaaGreat.RgB
open Go.ChangeShapes Go.WideShapes Go.ChangeAt Go.RowKit
open Go.Proofs.YtbnkpnllgoghnaaGreat.Mem Go.Proofs.YtbnkpnllgoghnaaGreat.Blk Go.Proofs.YtbnkpnllgoghnaaGreat.Cells Go.Proofs.YtbnkpnllgoghnaaGreat.Orow Go.Proofs.YtbnkpnllgoghnaaGreat.RfP Go.Proofs.YtbnkpnllgoghnaaGreat.RgP Go.Proofs.YtbnkpnllgoghnaaGreat.RgS Go.Proofs.YtbnkpnllgoghnaaGreat.RgA Go.Proofs.YtbnkpnllgoghnaaGreat.Stages
open Go.Proofs.YtbnkpnllgoghnaaGreat.ArM (Ar Fr)
open Go.Proofs.YtbnkpnllgoghnaaGreat.ArC (ArAt FR)
open Go.Proofs.YtbnkpnllgoghnaaGreat.ArB (bcell)
open Go.Proofs.YtbnkpnllgoghnaaGreat.Dev (Dv DevAt)
open Go.Proofs.YtbnkpnllgoghnaaGreat.ListM (outL frontL okO)
open Go.Proofs.YtbnkpnllgoghnaaGreat.HdM (Hs)
open Go.Proofs.YtbnkpnllgoghnaaGreat.RfM (Pl)
open Go.Proofs.YtbnkpnllgoghnaaGreat.RfI (InvE Inv)
open Go.Proofs.YtbnkpnllgoghnaaGreat.RgM (Bnd saveC saveS)
section
variable {w w' : World} {col col' : Nat → Nat} {ν : Nm} {S : Dv} {A : Ar} {L : List Nat} {H : Hs} {T : Nat → Bool} {g : Nat} {t : TypeId} {cs : List Value}
/-- A box that is none of the pool's stays as it is. -/
theorem Went.blk (h : Went w col w' col') (hb : Blk w g t cs) (h0 : col g < 6 ∨ 11 < col g) : Blk w' g t cs ∧ (col' g < 6 ∨ 11 < col' g) :=
  ⟨hb.kept h.kept fun m => by have := m.2; omega, by rw [h.old g hb.lt]; exact h0⟩
/-- A box of the call's own is written. -/
theorem Went.box {w1 w2 : World} {c1 : Nat → Nat} (h : Went w col w1 c1) (hk : Kept (fun k => k = g) w1 w2) (hg : w.heap.size ≤ g) : Went w col w2 c1 := ⟨h.old, h.kept.then hk fun k h1 h2 => absurd h2 (by omega)⟩
theorem set_row {g : Nat} {t : TypeId} {cs : List Value} (h : Blk w g t cs) (xs : Array Value) : Blk (w.setRow g xs) g t xs.toList ∧ Kept (fun k => k = g) w (w.setRow g xs) :=
  ⟨by have := setRow_heap w g _ xs t (0, 0) h; unfold Blk; rw [this], ⟨rfl, rfl, rfl, by simp, fun i hi hf => setRow_other w g i _ hf⟩⟩
theorem fr_size : (Tryz.prog.info? 36).map (·.size) = some 5 := by kernel_rfl
theorem frames_at {G : Nat → Prop} {d : Nat} {a : Ar} (h : ArAt w G d a) (h0 : 0 < a.n) : Calls Tryz.prog 48 #[.pointer (some ⟨d, 0, none⟩)] w fun e w' => ∃ g c, e = .returned (.slice (some ⟨g, 0, none⟩) a.n c) ∧ FR w' g c a.n a.F ∧ w.heap.size ≤ g ∧ Grow w w' := by
  refine (ArB.frames_any h).mono fun e w' ⟨v, he, ho, hg⟩ => ?_
  obtain ⟨g, c, rfl, ho, hl⟩ := ho.form h0
  exact ⟨g, c, he, ho, hl, hg⟩
theorem or_sl {c n : Nat} {zs : List Int} (h : OR w g t 1 c n (bcell zs)) (hl : zs.length = n) : Sl w w.heap.size .u8 (some ⟨g, 0, none⟩) n zs :=
  ⟨hl, fun _ => ⟨g, 0, rfl, h.lt, fun j hj => by rw [Nat.zero_add]; exact h.cell (by omega)⟩⟩
theorem body_at {G : Nat → Prop} {d : Nat} {a : Ar} (h : ArAt w G d a) {f : Nat} (hf : f < a.n) (hs : (a.F f).st = 1) : Calls Tryz.prog 97 #[.pointer (some ⟨d, 0, none⟩), .int .i64 (f : Int)] w fun e w' => ∃ g c, e = .returned (.slice (some ⟨g, 0, none⟩) 16 c) ∧ OR w' g 5 1 c 16 (bcell (a.B f)) ∧ w.heap.size ≤ g ∧ Grow w w' := by
  refine (ArB.body_good h (f : Int) (ArM.used_iff.2 ⟨f, rfl, hf, hs⟩)).mono fun e w' ⟨g, c, he, hl, ho, hg⟩ => ?_
  rw [Int.toNat_natCast] at ho
  exact ⟨g, c, he, ho, hl, hg⟩
theorem heard0 (w : World) : Calls Tryz.prog 103 #[.int .i64 0] w fun x w' => x = .returned (.int .i64 0) ∧ w = w' := heard_any 0 w
theorem heard9 (w : World) : Calls Tryz.prog 103 #[.int .i64 9] w fun x w' => x = .returned (.int .i64 9) ∧ w = w' := heard_any 9 w
/-! ### hand -/
/-- The value v is the answer r; its data lie in blocks that are none of the pool's, and may be written. -/
def ResV (w : World) (base : Nat) (col : Nat → Nat) (v : Value) (r : MdM.Re) : Prop := ∃ A n cap, v = .agg #[.int .i64 r.c, .int .i64 r.p, .int .i64 r.h, .slice A n cap] ∧ Sl w w.heap.size .u8 A n r.d ∧ (∀ x, A = some x → 0 < n → base ≤ x.block ∧ (col x.block < 6 ∨ 11 < col x.block)) ∧ PmT.Fz w A n
theorem resv_none (w : World) (base : Nat) (col : Nat → Nat) (c p h : Int) : ResV w base col (.agg #[.int .i64 c, .int .i64 p, .int .i64 h, .slice none 0 0]) ⟨c, p, h, []⟩ :=
  ⟨none, 0, 0, rfl, Sl.nil _ _ _ _, fun _ h => (by cases h), PmT.fz_nil w⟩
/-- A call's answer in the pool's own words. -/
def RPost (ν : Nm) (w : World) (col : Nat → Nat) (r : MdM.Re) (S : Dv) (A : Ar) (L : List Nat) (H : Hs) (T : Nat → Bool) (e : Ending) (w' : World) : Prop :=
  ∃ rv col', e = .returned rv ∧ ResV w' w.heap.size col' rv r ∧ Went w col w' col' ∧ MAt w' col' ν S A L H T
theorem code_any (c : Int) (w : World) : Calls Tryz.prog 39 #[.int .i64 c] w fun e w' => e = .returned (.agg #[.int .i64 c, .int .i64 0, .int .i64 0, .slice none 0 0]) ∧ Grow w w' := by
  have hb := Blk.new w 27 [.int .i64 0, .int .i64 0, .int .i64 0, .slice none 0 0]
  have hg : Grow w (w.alloc (.cells #[.int .i64 0, .int .i64 0, .int .i64 0, .slice none 0 0] 27)) := (Kept.refl _ _).alloc _
  have HB := Lib.hid hb
  have HG := Lib.hid hg
  clear hb hg
  go_enter Tryz.func39, Tryz.ntmps39
  go_wp2_with (refine wpList_store_row rfl 27 _ _ rfl w.heap.size #[.int .i64 c, .int .i64 0, .int .i64 0, .slice none 0 0] rfl rfl _ _ HB.out MdC.res_size rfl (by simp [Value.oneCell']) ?_)
  have HR := Lib.hid (set_row HB.out #[.int .i64 c, .int .i64 0, .int .i64 0, .slice none 0 0])
  refine MdC.ret_res (g := w.heap.size) rfl rfl HR.out.1 rfl ?_
  exact ⟨rfl, HG.out.then HR.out.2 fun k hk e => by omega⟩
theorem hand_any (x : MAt w col ν S A L H T) (c p f : Int) : Calls Tryz.prog 92 #[.pointer (some ⟨ν.r, 0, none⟩), .int .i64 c, .int .i64 p, .int .i64 f] w (RPost ν w col ⟨0, p, H.give c p, []⟩ S (A.pin f) L (H.gave c p) T) := by
  have c1 := x.c1
  have hb := Blk.new w 27 [.int .i64 0, .int .i64 0, .int .i64 0, .slice none 0 0]
  have hg : Grow w (w.alloc (.cells #[.int .i64 0, .int .i64 0, .int .i64 0, .slice none 0 0] 27)) := (Kept.refl _ _).alloc _
  have HX := Lib.hid (x.grow hg)
  have HW := Lib.hid (Went.grow (col := col) hg)
  have HC : Hid (paint w.heap.size 0 col w.heap.size < 6 ∨ 11 < paint w.heap.size 0 col w.heap.size) := .inl (by rw [paint_new (Nat.le_refl _)]; decide)
  have HB := Lib.hid hb
  have HP := Lib.hid (ArD.pin_any HX.out.arena f)
  have e1 := HX.out.c1
  clear x hb hg
  go_enter Tryz.func92, Tryz.ntmps92
  go_upto_region 1 with (fail)
  generalize w.alloc (.cells #[.int .i64 0, .int .i64 0, .int .i64 0, .slice none 0 0] 27) = w0 at *
  go_upto_region 2 with (go_at_call 149; (with_reducible refine HP.out.mono ?_); rintro e w1 ⟨rfl, hl, hk⟩; obtain ⟨c1', hw1, hm1⟩ := HX.out.setA hl hk; have HW1 := Lib.hid hw1; have d2 := hm1.c2; have HG := Lib.hid (HdO.give_any hm1.hand c p); have HM1 := Lib.hid hm1; clear hl hk hw1 hm1)
  clear e1
  have HB1 := Lib.hid (Went.blk HW1.out HB.out HC.out)
  go_wp2_with (first
    | (go_at_call 150; (with_reducible refine HG.out.mono ?_); rintro e w2 ⟨rfl, hl, hk⟩; obtain ⟨c2', hw2, hm2⟩ := HM1.out.setH hl hk; have HW2 := Lib.hid hw2; have HM2 := Lib.hid hm2; have HB2 := Lib.hid (Went.blk HW2.out HB1.out.1 HB1.out.2); clear hl hk hw2 hm2 d2)
    | (refine wpList_store_row rfl 27 _ _ rfl w.heap.size #[.int .i64 0, .int .i64 p, .int .i64 (H.give c p), .slice none 0 0] rfl rfl _ _ HB2.out.1 MdC.res_size rfl (by simp [Value.oneCell']) ?_))
  have HR := Lib.hid (set_row HB2.out.1 #[.int .i64 0, .int .i64 p, .int .i64 (H.give c p), .slice none 0 0])
  refine MdC.ret_res (g := w.heap.size) rfl rfl HR.out.1 rfl ?_
  have hk2 := HR.out.2
  have hc2 := HB2.out.2
  exact ⟨_, c2', rfl, resv_none _ _ _ _ _ _, Went.box ((HW.out.trans HW1.out).trans HW2.out) hk2 (Nat.le_refl _), HM2.out.keep hk2 (fun k _ e => by rw [e]; exact hc2) fun _ _ => rfl⟩
theorem save_none (x : Nat) (w : World) : Calls Tryz.prog 101 #[.pointer (some ⟨x, 0, none⟩), .int .i64 (-1)] w fun e w' => e = .returned (.int .i64 0) ∧ w = w' := by
  go_enter Tryz.func101, Tryz.ntmps101
  go_wp2
  go_ret
  exact ⟨rfl, rfl⟩
set_option maxHeartbeats 1000000 in
set_option maxRecDepth 100000 in
theorem save_any {p : Pl} {h : Option Nat} {f k : Nat} (x : MAt w col ν p.D p.A p.L H T) (i : InvE p h) (hf : f < p.A.n) (hb : MdM.Bytes (p.A.B f)) (hl : Bnd p.D k) (hk : k ≤ 1000000) :
    Calls Tryz.prog 101 #[.pointer (some ⟨ν.r, 0, none⟩), .int .i64 (f : Int)] w (Post ν w col (.int .i64 (saveC p f)) (saveS p f).D (saveS p f).A (saveS p f).L H T) := by
  have c1 := x.c1
  have hn32 := i.ga.n
  have hnz : (p.A.n : Int) ≤ 32 := by omega
  have hfz : (f : Int) < (p.A.n : Int) := by omega
  have HF := Lib.hid (frames_at x.arena (by omega))
  have HX := Lib.hid x
  cases hd : (p.A.F f).di with
  | false =>
    have E1 : Hid (saveC p f = 0) := by unfold Hid saveC; rw [hd]; rfl
    have E2 : Hid (saveS p f = p) := by unfold Hid saveS; rw [hd]; rfl
    rw [E1.out, E2.out]
    clear x i hb hl hk
    go_enter Tryz.func101, Tryz.ntmps101
    go_upto_region 4 with (first
      | (go_at_call 48; (with_reducible refine HF.out.mono ?_); rintro e w1 ⟨g, c, rfl, ho, hg, hgr⟩; have k0 := FR.c0 ho hf; have k1 := FR.c1 ho hf; have k2 := FR.c2 ho hf; have k3 := FR.c3 ho hf; have k4 := FR.c4 ho hf; rw [hd] at k4; have HB := Lib.hid (Blk.new w1 36 [.int .i64 0, .int .i64 0, .int .i64 0, .int .i64 0, .bool false]); have HGR := Lib.hid hgr; clear ho hg hgr)
      | (refine wpList_store_row rfl 36 _ _ rfl w1.heap.size #[.int .i64 (p.A.F f).st, .int .i64 (p.A.F f).pg, .int .i64 (p.A.F f).pn, .int .i64 0, .bool false] rfl rfl _ _ HB.out fr_size rfl (by simp [Value.oneCell']) ?_))
    have HR := Lib.hid (set_row HB.out #[.int .i64 (p.A.F f).st, .int .i64 (p.A.F f).pg, .int .i64 (p.A.F f).pn, .int .i64 0, .bool false])
    have HG2 : Hid (Grow w1 ((w1.alloc (.cells #[.int .i64 0, .int .i64 0, .int .i64 0, .int .i64 0, .bool false] 36)).setRow w1.heap.size #[.int .i64 (p.A.F f).st, .int .i64 (p.A.F f).pg, .int .i64 (p.A.F f).pn, .int .i64 0, .bool false])) := ((Kept.refl _ w1).alloc _).then HR.out.2 fun k hk e => by omega
    have b1 := HR.out.1.cell 1
    have b4 := HR.out.1.cell 4
    simp only [List.getElem?_cons_succ, List.getElem?_cons_zero] at b1 b4
    clear k0 k1 k2 k3 k4
    generalize (w1.alloc (.cells #[.int .i64 0, .int .i64 0, .int .i64 0, .int .i64 0, .bool false] 36)).setRow w1.heap.size #[.int .i64 (p.A.F f).st, .int .i64 (p.A.F f).pg, .int .i64 (p.A.F f).pn, .int .i64 0, .bool false] = w2 at *
    go_wp2
    go_ret
    exact ⟨rfl, HX.out.grow' (HGR.out.trans HG2.out)⟩
  | true =>
    have hs : (p.A.F f).st = 1 := by
      rcases i.st f hf with e | e
      · have := (i.ga.rest f hf (by omega)).2.2
        rw [hd] at this
        cases this
      · exact e
    obtain ⟨q, hq, hp⟩ := i.pg f hf hs
    have h48 := i.q48 hq
    have hqz : (q : Int) < 48 := by omega
    have hqN : q < p.D.N := by rw [i.dN]; exact hq
    have hlen : (p.A.B f).length = 16 := i.ga.b f
    have himg : p.img f = PageM.sealI (q : Int) (p.A.B f) := by unfold Pl.img; rw [hp]; exact RfM.seal_ok h48 hlen
    have hil : (PageM.sealI (q : Int) (p.A.B f)).length = 24 := by rw [PageM.seal_len, hlen]
    have EW : Hid (p.wrC f = Dev.writeC p.D (q : Int) 24) := by unfold Hid Pl.wrC; rw [hp, himg, hil]
    have he : p.wrC f = 0 ∨ p.wrC f = 9 := by
      rw [EW.out]
      have := RfM.write_code (z := PageM.sealI (q : Int) (p.A.B f)) hqN hil
      rw [hil] at this
      rw [this]
      rcases RfM.acc_cases i.dn with ⟨h, _⟩ | ⟨h, _⟩
      · exact .inl h
      · exact .inr h
    have E1 : Hid (saveC p f = p.wrC f) := by unfold Hid saveC; rw [hd]; rfl
    have E2 : Hid (saveS p f = ⟨p.X, Dev.writeS p.D (q : Int) (PageM.sealI (q : Int) (p.A.B f)), if p.wrC f = 0 then p.A.mark (f : Int) false else p.A, p.L⟩) := by unfold Hid saveS Pl.wr; rw [hd, himg, hp]; rfl
    have hbz : SumM.Bytes (PageM.sealI (q : Int) (p.A.B f)) := PageM.seal_bytes (by omega) hqz hb
    have HBZ := Lib.hid hbz
    have HBB : Hid (SumM.Bytes (p.A.B f)) := hb
    have HLEN := Lib.hid hlen
    have HL := Lib.hid (And.intro hl.1 (And.intro hl.2 hk))
    have HS := Lib.hid hs
    have HIL := Lib.hid hil
    rw [E1.out, E2.out]
    have HFF := Lib.hid hf
    have HPP := Lib.hid hp
    have HDD := Lib.hid hd
    have HEE := Lib.hid he
    clear x hp hd he i hb hl hk himg hq h48 hqN hlen hil hbz hs E1 E2
    have HQ0 : Hid ((0 : Int) ≤ (q : Int) ∧ (q : Int) < 48) := ⟨by omega, hqz⟩
    generalize hPP : Post ν w col _ _ _ _ H T = PP
    have HPQ := Lib.hid hPP
    clear hPP
    go_enter Tryz.func101, Tryz.ntmps101
    go_upto_region 4 with (first
      | (go_at_call 48; (with_reducible refine HF.out.mono ?_); rintro e w1 ⟨g, c, rfl, ho, hg, hgr⟩; have k0 := FR.c0 ho hf; have k1 := FR.c1 ho hf; have k2 := FR.c2 ho hf; have k3 := FR.c3 ho hf; have k4 := FR.c4 ho hf; rw [HDD.out] at k4; rw [HPP.out] at k1; have HB := Lib.hid (Blk.new w1 36 [.int .i64 0, .int .i64 0, .int .i64 0, .int .i64 0, .bool false]); have HGR := Lib.hid hgr; clear ho hg hgr)
      | (refine wpList_store_row rfl 36 _ _ rfl w1.heap.size #[.int .i64 (p.A.F f).st, .int .i64 (q : Int), .int .i64 (p.A.F f).pn, .int .i64 0, .bool true] rfl rfl _ _ HB.out fr_size rfl (by simp [Value.oneCell']) ?_))
    have HR := Lib.hid (set_row HB.out #[.int .i64 (p.A.F f).st, .int .i64 (q : Int), .int .i64 (p.A.F f).pn, .int .i64 0, .bool true])
    have HG2 : Hid (Grow w1 ((w1.alloc (.cells #[.int .i64 0, .int .i64 0, .int .i64 0, .int .i64 0, .bool false] 36)).setRow w1.heap.size #[.int .i64 (p.A.F f).st, .int .i64 (q : Int), .int .i64 (p.A.F f).pn, .int .i64 0, .bool true])) := ((Kept.refl _ w1).alloc _).then HR.out.2 fun k hk e => by omega
    have b1 := HR.out.1.cell 1
    have b4 := HR.out.1.cell 4
    simp only [List.getElem?_cons_succ, List.getElem?_cons_zero] at b1 b4
    clear k0 k1 k2 k3 k4
    have HBX := Lib.hid HR.out.1
    obtain ⟨n, hn⟩ : ∃ n, w1.heap.size = n := ⟨_, rfl⟩
    have HSZ : Hid (w.heap.size ≤ n) := by have := HGR.out.size; rw [hn] at this; exact this
    have HW2 : Hid (Went w col _ _) := Went.grow (col := col) (HGR.out.trans HG2.out)
    have HX2 := Lib.hid (HX.out.grow (HGR.out.trans HG2.out))
    clear HR HG2
    generalize (w1.alloc (.cells #[.int .i64 0, .int .i64 0, .int .i64 0, .int .i64 0, .bool false] 36)).setRow w1.heap.size #[.int .i64 (p.A.F f).st, .int .i64 (q : Int), .int .i64 (p.A.F f).pn, .int .i64 0, .bool true] = w2 at *
    rw [hn] at *
    have HC2 : Hid (paint w.heap.size 0 col n < 6 ∨ 11 < paint w.heap.size 0 col n) := .inl (by rw [paint_new HSZ.out]; decide)
    generalize paint w.heap.size 0 col = col2 at *
    have c1 := HX2.out.c1
    clear HX HF HGR hn
    have HBO := Lib.hid (body_at HX2.out.drew.arena HFF.out HS.out)
    go_upto_region 6 with (fail)
    have u1 := up_cell (F := fun _ => False) (w := w2.drew) (p := ⟨n, 1, none⟩) b1 id
    have u2 := up_cell (F := fun _ => False) (w := w2.drew) (p := ⟨ν.r, 1, none⟩) c1 id
    refine wp_region_stages Grow (kept_refl _) (kept_trans _) [([0, 1, 2, 3, 4, 5, 6], 7), ([], 8)] [9, 10, 11, 12, 13] (by kernel_rfl) (by kernel_rfl) ?_
    simp only [selSt, sel, List.map_cons, List.map_nil, List.getD_cons_succ, List.getD_cons_zero]
    refine st_cons fun K1 hK1 => ?_
    repeat (go_big_quiet_step (fail))
    refine wpQuiet_nil ?_
    go_wp2_with (go_at_call 97; (with_reducible refine HBO.out.mono ?_); rintro e w3 ⟨gb, cb, rfl, hob, hgb, hg3⟩; have HSE := Lib.hid (PageC.seal_good (q : Int) _ cb w3.heap.size _ w3 HQ0.out.1 HQ0.out.2 HBB.out (or_sl hob HLEN.out) (Nat.le_refl _)); have HG3 := Lib.hid hg3; clear hob hgb hg3)
    refine norm_up (hK1 _ _ HG3.out (st_cons fun K2 hK2 => wpQuiet_nil ?_))
    clear hK1 K1 u1 u2
    go_wp2_with (go_at_call 82; (with_reducible refine HSE.out.mono ?_); rintro e w4 ⟨gi, rfl, hgi, hbi, hg4⟩; have HBI := Lib.hid hbi; have HGI := Lib.hid hgi; have HG4 := Lib.hid hg4; clear hbi hgi hg4)
    refine norm_up (hK2 _ _ HG4.out (st_nil fun K4 hK4 => ?_))
    clear hK2 K2
    repeat (go_big_quiet_step (fail))
    refine wpQuiet_nil (hK4 _ ?_)
    clear hK4 K4 HBO HSE
    have HG24 : Hid (Grow w2 w4) := ((Kept.drew' w2).trans HG3.out).trans HG4.out
    have HW4 := Lib.hid (HW2.out.trans (Went.grow (col := col2) HG24.out))
    have HX4 := Lib.hid (HX2.out.grow HG24.out)
    have HBX4 := Lib.hid (HBX.out.grow HG24.out)
    have HC4 : Hid (paint w2.heap.size 0 col2 n < 6 ∨ 11 < paint w2.heap.size 0 col2 n) := by
      have := HC2.out
      unfold Hid
      rw [paint_old HBX.out.lt]
      exact this
    have HCI : Hid (paint w2.heap.size 0 col2 gi = 0) := paint_new (by have h1 := HGI.out; have h2 := HG3.out.size; have h3 : w2.heap.size = w2.drew.heap.size := rfl; omega)
    generalize paint w2.heap.size 0 col2 = col4 at *
    clear HX2 HW2 HBX b1 b4 c1 HC2 HGI HG3 HG4 HG24
    have b1 := HBX4.out.cell 1
    simp only [List.getElem?_cons_succ, List.getElem?_cons_zero] at b1
    have c0 := HX4.out.c0
    have HOW := Lib.hid (HX4.out.four.d.own)
    have HWR : Hid (Calls Tryz.prog 155 #[.pointer (some ⟨ν.d, 0, none⟩), .int .i64 (q : Int), .slice (some ⟨gi, 0, none⟩) 24 24] w4.drew (DevC.DevPost ν.d ν.D ν.W (Bar w4.drew.heap.size col4 ν.d ν.D ν.W) w4.drew (.int .i64 (p.wrC f)) (Dev.writeS p.D (q : Int) (PageM.sealI (q : Int) (p.A.B f))))) := by
      rw [EW.out]
      refine Plays.dwrite_any HX4.out.drew.dev (q : Int) _ 24 24 w4.heap.size _ (by have := HQ0.out; omega) (by have := HQ0.out; omega) (by decide) (fun w' hk => ?_) HBZ.out (Bar.low HX4.out.drew.four.d) (by have := HL.out; omega) (by have := HL.out; omega)
      exact sl_off (Sl.of_blk0 (w := w4) HBI.out HIL.out HBI.out.lt) ((Kept.drew' w4).trans hk) fun y ey hy => by
        injection ey with ey
        subst ey
        have h1 := (HOW.out gi hy).2
        rw [HCI.out] at h1
        exact absurd h1 (by decide)
    go_upto_region 7 with (fail)
    have HBIx := HBI
    have u1 := up_cell (F := Dev.Own ν.d ν.D ν.W) (w := w4.drew) (p := ⟨n, 1, none⟩) b1 (fun y => by have h1 := (HOW.out n y).2; have h2 := HC4.out; omega)
    have u0 := up_cell (F := Dev.Own ν.d ν.D ν.W) (w := w4.drew) (p := ⟨ν.r, 0, none⟩) c0 (fun y => by have h1 := (HOW.out ν.r y).2; have h2 := HX4.out.cr; omega)
    refine wp_region_stages (Kept (Dev.Own ν.d ν.D ν.W)) (kept_refl _) (kept_trans _) [([0, 1, 2, 3, 4, 5, 6], 7), ([], 8)] [9] (by kernel_rfl) (by kernel_rfl) ?_
    simp only [selSt, sel, List.map_cons, List.map_nil, List.getD_cons_succ, List.getD_cons_zero]
    refine st_cons fun K1 hK1 => ?_
    repeat (go_big_quiet_step (fail))
    refine wpQuiet_nil ?_
    rcases HEE.out with he | he
    · rw [he] at HWR
      go_wp2_with (go_at_call 155; (with_reducible refine HWR.out.mono ?_); rintro e w5 ⟨rfl, hd5, hk5⟩; obtain ⟨col5, hw5, hm5⟩ := HX4.out.drew.setD hd5 hk5; have HW5 := Lib.hid hw5; have HM5 := Lib.hid hm5; have HK5 := Lib.hid hk5; clear hw5 hm5 hk5 hd5)
      refine norm_up (hK1 _ _ HK5.out (st_cons fun K2 hK2 => wpQuiet_nil ?_))
      clear hK1 K1 u1 u0
      go_wp2_with (go_at_call 103; (with_reducible refine (heard0 w5).mono ?_); rintro e w6 ⟨rfl, rfl⟩)
      refine norm_up (hK2 _ _ (Kept.refl _ _) (st_nil fun K4 hK4 => ?_))
      clear hK2 K2
      repeat (go_big_quiet_step (fail))
      refine wpQuiet_nil (hK4 _ ?_)
      clear hK4 K4 b1 c0
      have c1 := HM5.out.c1
      have HMK := Lib.hid (ArD.mark_any HM5.out.arena (f : Int) false)
      go_wp2_with (go_at_call 91; (with_reducible refine HMK.out.mono ?_); rintro e w6 ⟨rfl, hl, hk⟩; obtain ⟨c6, hw6, hm6⟩ := HM5.out.setA hl hk; have HW6 := Lib.hid hw6; have HM6 := Lib.hid hm6; clear hl hk hw6 hm6)
      rw [← HPQ.out, he, if_pos rfl]
      exact ⟨rfl, c6, ((HW4.out.trans (Went.drew w4 col4)).trans HW5.out).trans HW6.out, HM6.out⟩
    · rw [he] at HWR
      go_wp2_with (go_at_call 155; (with_reducible refine HWR.out.mono ?_); rintro e w5 ⟨rfl, hd5, hk5⟩; obtain ⟨col5, hw5, hm5⟩ := HX4.out.drew.setD hd5 hk5; have HW5 := Lib.hid hw5; have HM5 := Lib.hid hm5; have HK5 := Lib.hid hk5; clear hw5 hm5 hk5 hd5)
      refine norm_up (hK1 _ _ HK5.out (st_cons fun K2 hK2 => wpQuiet_nil ?_))
      clear hK1 K1 u1 u0
      go_wp2_with (go_at_call 103; (with_reducible refine (heard9 w5).mono ?_); rintro e w6 ⟨rfl, rfl⟩)
      refine norm_up (hK2 _ _ (Kept.refl _ _) (st_nil fun K4 hK4 => ?_))
      clear hK2 K2
      repeat (go_big_quiet_step (fail))
      refine wpQuiet_nil (hK4 _ ?_)
      clear hK4 K4 b1 c0
      go_wp2
      rw [← HPQ.out, he, if_neg (by decide)]
      exact ⟨rfl, col5, (HW4.out.trans (Went.drew w4 col4)).trans HW5.out, HM5.out⟩
end
end Go.Proofs.YtbnkpnllgoghnaaGreat.RgB

namespace Go.Proofs.YtbnkpnllgoghnaaGreat.RgR
open Go.ChangeShapes Go.WideShapes Go.ChangeAt Go.RowKit
open Go.Proofs.YtbnkpnllgoghnaaGreat.SumM Go.Proofs.YtbnkpnllgoghnaaGreat.Mem Go.Proofs.YtbnkpnllgoghnaaGreat.Blk Go.Proofs.YtbnkpnllgoghnaaGreat.PageM Go.Proofs.YtbnkpnllgoghnaaGreat.Str Go.Proofs.YtbnkpnllgoghnaaGreat.Dev Go.Proofs.YtbnkpnllgoghnaaGreat.LibC Go.Proofs.YtbnkpnllgoghnaaGreat.DevC Go.Proofs.YtbnkpnllgoghnaaGreat.Stages
def ReadCap (d D W : Nat) (G : Nat → Prop) (w : World) (zs : List Int) (S' : Dv) (e : Ending) (w' : World) : Prop :=
  ∃ g cap, e = .returned (.tuple #[.slice (some ⟨g, 0, none⟩) 24 cap, .int .i64 0]) ∧ w.heap.size ≤ g ∧ NRow w' g 24 .u8 zs ∧ (24 ≤ cap ∧ cap ≤ maxLen) ∧
    DevAt w' d D W (fun k => G k ∨ w.heap.size ≤ k) S' ∧ Kept (Dev.Own d D W) w w'
section
variable {w : World} {d D W : Nat} {G : Nat → Prop} {S : Dv}
set_option maxHeartbeats 1000000 in
theorem read_cap (h : DevAt w d D W G S) (k : Nat) (hk : k < S.N) (hn : (S.n : Int) < 9223372036854775807) (hb : (S.bad : Int) < 9223372036854775807) (hc : accC S = 0) :
    Calls Tryz.prog 180 #[.pointer (some ⟨d, 0, none⟩), .int .i64 (k : Int)] w (ReadCap d D W G w (cur S k) (accS S)) := by
  have hN := h.size
  have HH := Lib.hid (has_any h (k : Int) (by omega) (by omega))
  have hp : hasI S (k : Int) = true := by simp [hasI, hk]
  have HA := Lib.hid (access_any h hn hb)
  rw [hc] at HA
  rw [hp] at HH
  clear hp hc
  have q22 : ∀ (w : World) (a : Option Addr) (n c n' c' : Nat), (binOp .neq 22 (.slice a n c) (.slice none n' c')).run Tryz.prog w = .ok (.bool (!a.isNone)) w := fun w a n c n' c' => run_neq_slice_nil_any w _ _ a n c n' c' Tryz.underlying22
  have HCU : Hid (cur S k = (S.wr k).getD (S.dur k)) := rfl
  clear h
  go_enter Tryz.func180, Tryz.ntmps180
  go_upto_region 8 with (first
      | (go_at_call 184; (with_reducible refine HH.out.mono ?_); rintro e w' ⟨rfl, rfl⟩)
      | (go_at_call 157; (with_reducible refine HA.out.mono ?_); rintro e w1 ⟨⟨rfl, hdev, hk⟩, hsz⟩; have HD := Lib.hid hdev; have HK := Lib.hid hk; have HZ := Lib.hid hsz; clear hdev hk hsz))
  have hd := HD.out
  have c0 := hd.c0
  have c1 := hd.c1
  obtain ⟨dv, hdr, hdi⟩ := hd.dur
  obtain ⟨wv, hwr, hwi⟩ := hd.wr
  have hdk := hdi k (by rw [accS_N]; exact hk)
  have hwk := hwi k (by rw [accS_N]; exact hk)
  have r0 := hdr.cell (i := k) (by rw [accS_N]; exact hk)
  have r1 := hwr.cell (i := k) (by rw [accS_N]; exact hk)
  rw [accS_N] at c0 c1
  rw [accS_dur] at hdk
  rw [accS_wr] at hwk
  have hkz : (k : Int) < (S.N : Int) := by omega
  clear hd hdr hdi hwr hwi HH HA
  generalize dv k = x at *
  generalize wv k = y at *
  generalize S.wr k = o at *
  generalize S.dur k = z at *
  generalize S.N = N at *
  cases o with
  | none =>
    obtain rfl : y = .slice none 0 0 := hwk
    obtain ⟨b, c, rfl, h24, hm, hsl⟩ := hdk.sl
    clear hdk
    have CL := Lib.hid (clone_any (some ⟨b, 0, none⟩) 24 c w1.heap.size z w1 (by omega) (by omega) hsl)
    clear hsl
    go_wp2_with (go_at_call 80; (with_reducible refine CL.out.mono ?_); rintro e w2 ⟨g, c', rfl, hg, hrow, h1, h2, hgr⟩; have HG := Lib.hid hg; have HR := Lib.hid hrow; have HGR := Lib.hid hgr; clear hg hrow hgr)
    go_ret2
    have hz := HZ.out
    refine ⟨g, c', rfl, by rw [← hz]; exact HG.out, by rw [HCU.out]; exact HR.out, ⟨h1, h2⟩, ?_, HK.out.then HGR.out (fun _ _ x => x.elim)⟩
    have := HD.out.newer HGR.out
    rwa [hz] at this
  | some z' =>
    obtain ⟨b, c, rfl, h24, hm, hsl⟩ := Img.sl (show Img _ _ _ z' from hwk)
    clear hwk hdk
    have CL := Lib.hid (clone_any (some ⟨b, 0, none⟩) 24 c w1.heap.size z' w1 (by omega) (by omega) hsl)
    clear hsl
    go_wp2_with (go_at_call 80; (with_reducible refine CL.out.mono ?_); rintro e w2 ⟨g, c', rfl, hg, hrow, h1, h2, hgr⟩; have HG := Lib.hid hg; have HR := Lib.hid hrow; have HGR := Lib.hid hgr; clear hg hrow hgr)
    go_ret2
    have hz := HZ.out
    refine ⟨g, c', rfl, by rw [← hz]; exact HG.out, by rw [HCU.out]; exact HR.out, ⟨h1, h2⟩, ?_, HK.out.then HGR.out (fun _ _ x => x.elim)⟩
    have := HD.out.newer HGR.out
    rwa [hz] at this
end
end Go.Proofs.YtbnkpnllgoghnaaGreat.RgR

namespace Go.Proofs.YtbnkpnllgoghnaaGreat.RgC
open Go.ChangeShapes Go.WideShapes Go.ChangeAt Go.RowKit
open Go.Proofs.YtbnkpnllgoghnaaGreat.Mem Go.Proofs.YtbnkpnllgoghnaaGreat.Blk Go.Proofs.YtbnkpnllgoghnaaGreat.Cells Go.Proofs.YtbnkpnllgoghnaaGreat.Orow Go.Proofs.YtbnkpnllgoghnaaGreat.RfP Go.Proofs.YtbnkpnllgoghnaaGreat.RgP Go.Proofs.YtbnkpnllgoghnaaGreat.RgS Go.Proofs.YtbnkpnllgoghnaaGreat.RgA Go.Proofs.YtbnkpnllgoghnaaGreat.RgB Go.Proofs.YtbnkpnllgoghnaaGreat.Stages
open Go.Proofs.YtbnkpnllgoghnaaGreat.ArM (Ar Fr fUsed)
open Go.Proofs.YtbnkpnllgoghnaaGreat.ArC (ArAt FR)
open Go.Proofs.YtbnkpnllgoghnaaGreat.Dev (Dv DevAt)
open Go.Proofs.YtbnkpnllgoghnaaGreat.ListM (outL frontL okO)
open Go.Proofs.YtbnkpnllgoghnaaGreat.HdM (Hs)
open Go.Proofs.YtbnkpnllgoghnaaGreat.RfM (Pl)
open Go.Proofs.YtbnkpnllgoghnaaGreat.RfI (InvE Inv)
open Go.Proofs.YtbnkpnllgoghnaaGreat.RgM (Bnd saveC saveS)
/-- What was read goes into the frame, or a code tells why not. -/
def loadC (p : Pl) (q : Nat) : Int := if Dev.readC p.D q ≠ 0 then Dev.readC p.D q else if PageM.openC q (Dev.cur p.D q) = 11 then 0 else PageM.openC q (Dev.cur p.D q)
def loadA (p : Pl) (q f : Nat) : Ar := if Dev.readC p.D q ≠ 0 then p.A else if PageM.openC q (Dev.cur p.D q) = 0 then ⟨p.A.n, p.A.F, TabM.upd p.A.B f (PageM.openB q (Dev.cur p.D q)), p.A.Q⟩ else p.A
theorem readB_cur {D : Dv} {q : Nat} (h : Dev.readC D q = 0) : Dev.readB D q = Dev.cur D q := by unfold Dev.readB; rw [if_pos h]; rfl
theorem load_eq (p : Pl) (q f : Nat) : p.load (q : Int) f = if loadC p q = 0 then (((f : Int), 0), ⟨p.X, Dev.readS p.D q, loadA p q f, p.L⟩) else ((-1, loadC p q), (⟨p.X, Dev.readS p.D q, loadA p q f, p.L⟩ : Pl).drop f) := by
  unfold Pl.load loadC loadA
  by_cases h : Dev.readC p.D q = 0
  · have hb := readB_cur h
    by_cases h0 : PageM.openC q (Dev.cur p.D q) = 0
    · simp [h, hb, h0]
    · by_cases h1 : PageM.openC q (Dev.cur p.D q) = 11
      · simp [h, hb, h1]
      · simp [h, hb, h0, h1]
  · simp [h]
section
variable {w w' : World} {col col' : Nat → Nat} {ν : Nm} {H : Hs} {T : Nat → Bool}
theorem set_whole {a : Ar} {f : Nat} {q : Int} {z : List Int} (hf : f < a.n) (hF : a.F f = fUsed q) (hb : (a.B f).length = 16) (hz : z.length = 16) :
    a.setC (f : Int) 0 z = 0 ∧ (a.set (f : Int) 0 z).markC (f : Int) = 0 ∧ (a.set (f : Int) 0 z).mark (f : Int) false = ⟨a.n, a.F, TabM.upd a.B f z, a.Q⟩ := by
  have hu : a.used (f : Int) = true := ArM.used_iff.2 ⟨f, rfl, hf, by rw [hF]; rfl⟩
  have e1 : a.setC (f : Int) 0 z = 0 := by unfold Ar.setC; rw [if_pos hu, if_pos ⟨by omega, by rw [hz]; decide⟩]
  have e2 : ArM.splice (a.B f) 0 z = z := by unfold ArM.splice; simp [hz, hb]
  have e3 : a.set (f : Int) 0 z = ⟨a.n, TabM.upd a.F f ⟨1, q, 0, true⟩, TabM.upd a.B f z, a.Q⟩ := by
    unfold Ar.set
    rw [if_pos e1, Int.toNat_natCast, hF]
    show (⟨a.n, TabM.upd a.F f ⟨1, q, 0, true⟩, TabM.upd a.B f (ArM.splice (a.B f) 0 z), a.Q⟩ : Ar) = _
    rw [e2]
  have hu2 : (a.set (f : Int) 0 z).used (f : Int) = true := ArM.used_iff.2 ⟨f, rfl, by rw [e3]; exact hf, by rw [e3]; show (TabM.upd a.F f _ f).st = 1; rw [TabM.upd_same]⟩
  refine ⟨e1, by unfold Ar.markC; rw [if_pos hu2], ?_⟩
  unfold Ar.mark
  rw [if_pos hu2, Int.toNat_natCast, e3]
  unfold Ar.turn
  dsimp only
  rw [TabM.upd_same]
  have : TabM.upd (TabM.upd a.F f ⟨1, q, 0, true⟩) f ⟨1, q, 0, false⟩ = a.F := by
    funext i
    by_cases e : i = f
    · subst e; rw [TabM.upd_same, hF]; rfl
    · rw [TabM.upd_other _ _ e, TabM.upd_other _ _ e]
  rw [this]
theorem nrow_sl {g n : Nat} {zs : List Int} (h : Dev.NRow w g n .u8 zs) (hl : zs.length = n) : Sl w w.heap.size .u8 (some ⟨g, 0, none⟩) n zs := Dev.Sl.of_row0 h hl h.lt
/-- What Open tells, by its code. -/
theorem open_code {q : Nat} {z : List Int} (h48 : q < 48) : PageM.openC (q : Int) z = 0 ∨ PageM.openC (q : Int) z = 11 ∨ (PageM.openC (q : Int) z ≠ 0 ∧ PageM.openC (q : Int) z ≠ 11) := by omega
set_option maxRecDepth 100000 in
set_option maxHeartbeats 1000000 in
theorem load_any {p : Pl} {h : Option Nat} {f q k : Nat} (x : MAt w col ν p.D p.A p.L H T) (i : InvE p h) (hf : f < p.A.n) (hq : q < p.X.n) (hF : p.A.F f = fUsed (q : Int)) (hl : Bnd p.D k) (hk : k ≤ 1000000) :
    Calls Tryz.prog 151 #[.pointer (some ⟨ν.r, 0, none⟩), .int .i64 (f : Int), .int .i64 (q : Int)] w (Post ν w col (.int .i64 (loadC p q)) (Dev.readS p.D q) (loadA p q f) p.L H T) := by
  have c0 := x.c0
  have h48 := i.q48 hq
  have hqz : (q : Int) < 48 := by omega
  have hqN : q < p.D.N := by rw [i.dN]; exact hq
  have hr : Dev.readC p.D q = Dev.accC p.D := by unfold Dev.readC Dev.hasI; rw [if_pos]; simp [hqN]
  have hrs : Dev.readS p.D q = Dev.accS p.D := by unfold Dev.readS Dev.hasI; rw [if_pos]; simp [hqN]
  have HX := Lib.hid x
  rcases RfM.acc_cases i.dn with ⟨hc, _⟩ | ⟨hc, _⟩
  · have hcur := x.dev.curOk hqN
    have HRD := Lib.hid (RgR.read_cap x.dev q hqN (by have := hl.1; omega) (by have := hl.2; omega) hc)
    have HC : Hid (Dev.readC p.D q = 0) := hr.trans hc
    rw [hrs]
    rcases open_code (z := Dev.cur p.D q) h48 with ho | ho | ⟨ho, ho1⟩
    · have E1 : Hid (loadC p q = 0) := by unfold Hid loadC; rw [if_neg (fun e => e HC.out), ho]; rfl
      have E2 : Hid (loadA p q f = ⟨p.A.n, p.A.F, TabM.upd p.A.B f (PageM.openB q (Dev.cur p.D q)), p.A.Q⟩) := by unfold Hid loadA; rw [if_neg (fun e => e HC.out), if_pos ho]
      have hz : (PageM.openB (q : Int) (Dev.cur p.D q)).length = 16 := by
        unfold PageM.openB
        rw [if_pos ho, List.length_drop, hcur.1]
      obtain ⟨s1, s2, s3⟩ := set_whole hf hF (i.ga.b f) hz
      have HZ := Lib.hid hz
      have HS := Lib.hid (And.intro s1 (And.intro s2 s3))
      have HCU := Lib.hid hcur
      have HO := Lib.hid ho
      rw [E1.out, E2.out]
      clear x i hf hq hF hl hk h48 hqN hr hrs hc hcur ho E1 E2 HC hz s1 s2 s3
      go_enter Tryz.func151, Tryz.ntmps151
      go_upto_region 4 with (go_at_call 180; (with_reducible refine HRD.out.mono ?_); rintro e w1 ⟨g, c, rfl, hg, hn, ⟨hc1, hc2⟩, hd, hk⟩; obtain ⟨hw1, hm1⟩ := HX.out.readD hd hk; have HW1 := Lib.hid hw1; have HM1 := Lib.hid hm1; have HOP := Lib.hid (PageC.open_is (PageC.open_good (q : Int) _ c w1.heap.size _ w1 (by omega) hqz HCU.out.2 (nrow_sl hn HCU.out.1) (Nat.le_refl _) hc1 hc2) HO.out rfl HZ.out); clear hg hn hc1 hc2 hd hk hw1 hm1)
      go_upto_region 5 with (go_at_call 30; (with_reducible refine HOP.out.mono ?_); rintro e w2 ⟨g2, c2, rfl, hg, hn, hgr⟩; have HM2 := Lib.hid (HM1.out.grow hgr); have HW2 := Lib.hid (HW1.out.trans (Went.grow hgr)); have d1 := HM2.out.c1; have HSL := Lib.hid (Sl.of_blk (B := w2.heap.size) hn 8 16 (by rw [PageM.seal_len, HZ.out]; omega) hn.lt); clear hg hn hgr)
      have HSE := Lib.hid (ArB.set_any HM2.out.arena (f : Int) 0 _ 16 c2 w2.heap.size _ (by have h := HSL.out; rw [PageM.seal_drop, List.take_of_length_le (by rw [HZ.out]; omega)] at h; exact h) (by omega))
      rw [HS.out.1] at HSE
      clear HOP HRD
      go_upto_region 8 with (go_at_call 98; (with_reducible refine HSE.out.mono ?_); rintro e w3 ⟨rfl, hl, hk⟩; obtain ⟨c3, hw3, hm3⟩ := HM2.out.setA hl hk; have HW3 := Lib.hid hw3; have e1 := hm3.c1; have HMK := Lib.hid (ArD.mark_any hm3.arena (f : Int) false); have HM3 := Lib.hid hm3; clear hl hk hw3 hm3 d1)
      rw [HS.out.2.1] at HMK
      go_wp2_with (go_at_call 91; (with_reducible refine HMK.out.mono ?_); rintro e w4 ⟨rfl, hl, hk⟩; obtain ⟨c4, hw4, hm4⟩ := HM3.out.setA hl hk; have HW4 := Lib.hid hw4; have HM4 := Lib.hid hm4; clear hl hk hw4 hm4 e1)
      go_ret
      refine ⟨rfl, c4, (HW2.out.trans HW3.out).trans HW4.out, ?_⟩
      have h4 := HM4.out
      rw [HS.out.2.2] at h4
      exact h4
    · have E1 : Hid (loadC p q = 0) := by unfold Hid loadC; rw [if_neg (fun e => e HC.out), if_pos ho]
      have E2 : Hid (loadA p q f = p.A) := by unfold Hid loadA; rw [if_neg (fun e => e HC.out), if_neg (by rw [ho]; decide)]
      have HO := Lib.hid ho
      have HCU := Lib.hid hcur
      rw [E1.out, E2.out]
      clear x i hf hq hF hl hk h48 hqN hr hrs hc hcur ho E1 E2 HC
      go_enter Tryz.func151, Tryz.ntmps151
      go_upto_region 4 with (go_at_call 180; (with_reducible refine HRD.out.mono ?_); rintro e w1 ⟨g, c, rfl, hg, hn, ⟨hc1, hc2⟩, hd, hk⟩; obtain ⟨hw1, hm1⟩ := HX.out.readD hd hk; have HW1 := Lib.hid hw1; have HM1 := Lib.hid hm1; have HOP := Lib.hid (PageC.open_not (PageC.open_good (q : Int) _ c w1.heap.size _ w1 (by omega) hqz HCU.out.2 (nrow_sl hn HCU.out.1) (Nat.le_refl _) hc1 hc2) HO.out (by decide)); clear hg hn hc1 hc2 hd hk hw1 hm1)
      go_wp2_with (go_at_call 30; (with_reducible refine HOP.out.mono ?_); rintro e w2 ⟨rfl, hgr⟩; have HM2 := Lib.hid (HM1.out.grow hgr); have HW2 := Lib.hid (HW1.out.trans (Went.grow hgr)); clear hgr)
      go_ret
      exact ⟨rfl, _, HW2.out, HM2.out⟩
    · obtain ⟨o, hoo⟩ : ∃ o, PageM.openC (q : Int) (Dev.cur p.D q) = o := ⟨_, rfl⟩
      rw [hoo] at ho ho1
      have E1 : Hid (loadC p q = o) := by unfold Hid loadC; rw [if_neg (fun e => e HC.out), hoo, if_neg ho1]
      have E2 : Hid (loadA p q f = p.A) := by unfold Hid loadA; rw [if_neg (fun e => e HC.out), if_neg (by rw [hoo]; exact ho)]
      have HO := Lib.hid hoo
      have HO1 := Lib.hid ho
      have HCU := Lib.hid hcur
      have z0 : (o == 0) = false := by simpa using ho
      have z1 : (o == 11) = false := by simpa using ho1
      rw [E1.out, E2.out]
      clear x i hf hq hF hl hk h48 hqN hr hrs hc hcur ho ho1 hoo E1 E2 HC
      go_enter Tryz.func151, Tryz.ntmps151
      go_upto_region 4 with (go_at_call 180; (with_reducible refine HRD.out.mono ?_); rintro e w1 ⟨g, c, rfl, hg, hn, ⟨hc1, hc2⟩, hd, hk⟩; obtain ⟨hw1, hm1⟩ := HX.out.readD hd hk; have HW1 := Lib.hid hw1; have HM1 := Lib.hid hm1; have HOP := Lib.hid (PageC.open_not (PageC.open_good (q : Int) _ c w1.heap.size _ w1 (by omega) hqz HCU.out.2 (nrow_sl hn HCU.out.1) (Nat.le_refl _) hc1 hc2) HO.out HO1.out); clear hg hn hc1 hc2 hd hk hw1 hm1)
      go_wp2_with (go_at_call 30; (with_reducible refine HOP.out.mono ?_); rintro e w2 ⟨rfl, hgr⟩; have HM2 := Lib.hid (HM1.out.grow hgr); have HW2 := Lib.hid (HW1.out.trans (Went.grow hgr)); clear hgr)
      go_ret
      exact ⟨rfl, _, HW2.out, HM2.out⟩
  · have E1 : Hid (loadC p q = 9) := by unfold Hid loadC; rw [hr, hc]; rfl
    have E2 : Hid (loadA p q f = p.A) := by unfold Hid loadA; rw [hr, hc]; rfl
    have HRD := Lib.hid (DevC.read_bad x.dev (q : Int) (by omega) (by omega) (by have := hl.1; omega) (by have := hl.2; omega) (by rw [hr, hc]; decide))
    rw [hr, hc] at HRD
    rw [E1.out, E2.out]
    clear x i hf hq hF hl hk h48 hqN hr hrs hc E1 E2
    go_enter Tryz.func151, Tryz.ntmps151
    go_wp2_with (first
      | (go_at_call 180; (with_reducible refine HRD.out.mono ?_); rintro e w1 ⟨rfl, hd, hk, _⟩; obtain ⟨c1, hw1, hm1⟩ := HX.out.setD hd hk; have HW1 := Lib.hid hw1; have HM1 := Lib.hid hm1; clear hd hk hw1 hm1)
      | (go_at_call 103; (with_reducible refine (heard9 _).mono ?_); rintro e w6 ⟨rfl, rfl⟩))
    go_ret
    exact ⟨rfl, c1, HW1.out, HM1.out⟩
end
end Go.Proofs.YtbnkpnllgoghnaaGreat.RgC

namespace Go.Proofs.YtbnkpnllgoghnaaGreat.Back
open Go.RowKit Go.Shelf
open Go.Proofs.YtbnkpnllgoghnaaGreat.Mem Go.Proofs.YtbnkpnllgoghnaaGreat.Blk
attribute [local go_sem] Oper.semAt_some
/-- What has come when k rounds are over, of n in all: from the last one on. -/
def come {α : Type} (n : Nat) (g : Nat → α) (k : Nat) : List α := (List.range k).map fun j => g (n - 1 - j)
theorem come_succ {α : Type} (n : Nat) (g : Nat → α) (k : Nat) : come n g (k + 1) = come n g k ++ [g (n - 1 - k)] := by simp [come, List.range_succ]
theorem come_length {α : Type} (n : Nat) (g : Nat → α) (k : Nat) : (come n g k).length = k := by simp [come]
/-- A place of the row, and what the loop is handed of it. -/
abbrev Pl (len : Nat) : Type := { m : Nat // m ≤ len - 1 }
def plOf (len m : Nat) : Pl len := ⟨min m (len - 1), Nat.min_le_right _ _⟩
def encP (zs : List Int) {len : Nat} (x : Pl len) : Array Value := #[.int .i64 (x.1 : Int), .int .i64 (zs.getD x.1 0)]
theorem encP_at (zs : List Int) {len m : Nat} (h : m < len) : encP zs (plOf len m) = #[.int .i64 (m : Int), .int .i64 (zs.getD m 0)] := by
  unfold encP plOf
  dsimp only
  rw [Nat.min_eq_left (by omega)]
set_option maxRecDepth 100000 in
set_option maxHeartbeats 2000000 in
theorem back1_in {α : Type} (g : Nat → α) (encs : α → Array Value) (F : Fence) (n : Nat) (hf : F.fn 208) (hro : F.round = none) (hn : 1 ≤ n) (l Bs n₀ b off len cap : Nat) (zs : List Int) (hlen : len ≤ 1000) (hb : b < n₀) (hg : ∀ m, m < len → encs (g m) = #[.int .i64 (m : Int), .int .i64 (zs.getD m 0)]) (J Jx : List α → World → Prop)
    (hY : ∀ pre x W, J pre W → pre.length < len → YieldAt F (n - 1) Tryz.prog l (encs x) W fun e W' =>
      (e = .returned (.bool true) ∧ J (pre ++ [x]) W' ∧ Below n₀ W W') ∨ (e = .returned (.bool false) ∧ Jx (pre ++ [x]) W'))
    (W : World) (hBs : W.cell? ⟨Bs, 0, none⟩ = some (.slice (some ⟨b, off, none⟩) len cap)) (hBn : Bs < n₀) (hc : ∀ j, j < len → W.cell? ⟨b, off + j, none⟩ = some (.int .i64 (zs.getD j 0))) (h0 : J [] W) :
    CallsIn F n Tryz.prog 208 #[.func (.yield l) #[] #[], .pointer (some ⟨Bs, 0, none⟩)] W fun e W' => (∃ v, e = .returned v) ∧
      ((∃ ys, ys = come len g len ∧ J ys W') ∨ (∃ pre, (∃ k, k ≤ len ∧ pre = come len g k) ∧ Jx pre W')) := by
  have hlz : (len : Int) ≤ 1000 := by omega
  refine callsIn_of_wp Tryz.func208 rfl hf ?_ hro
  simp only [Tryz.ntmps208, List.size_toArray, List.length_cons, List.length_nil, Nat.reduceAdd, Nat.reduceSub, Array.replicate_succ, Array.replicate_zero, List.push_toArray, List.append_toArray, List.nil_append, List.cons_append]
  gi_wp2
  gi_loopw [3] (fun i wr => ∃ (m : Nat) (t : Int), i = .int .i64 t ∧ t = (m : Int) - 1 ∧ m ≤ len ∧ J (come len g (len - m)) wr ∧ Below n₀ W wr)
    (fun i _ => (intOf i + 1).toNat)
  case atStart => exact ⟨len, _, rfl, rfl, Nat.le_refl _, by rw [Nat.sub_self]; exact h0, Below.refl _ _⟩
  case round =>
    obtain ⟨m, t, rfl, ht, hm, hJs, hnx⟩ := hrel
    have hbx := (hnx.cell (p := ⟨Bs, 0, none⟩) hBn).trans hBs
    cases m with
    | zero =>
      have ht0 : t < 0 := by omega
      rw [Nat.sub_zero] at hJs
      clear ht
      gi_wp2
      go_end0
      exact ⟨⟨_, rfl⟩, .inl ⟨_, rfl, hJs⟩⟩
    | succ m =>
      obtain rfl : t = (m : Int) := by omega
      have hmz : (m : Int) < (len : Int) := by omega
      have hcx : wr.cell? ⟨b, off + m, none⟩ = some (.int .i64 (zs.getD m 0)) := (hnx.cell (p := ⟨b, off + m, none⟩) hb).trans (hc m (by omega))
      have hsu := come_succ len g (len - (m + 1))
      rw [show len - 1 - (len - (m + 1)) = m by omega, show len - (m + 1) + 1 = len - m by omega] at hsu
      obtain ⟨fn, tmps, assign, body, hy, hR⟩ := hY _ (g m) wr hJs (by rw [come_length]; omega)
      rw [hg m (by omega)] at hy
      rw [← hsu] at hR
      clear hc ht hJs hY hg
      generalize zs.getD m 0 = x at hcx hy
      gi_wp2
      refine hR.mono ?_
      rintro e W3 (⟨rfl, hJ3, hk3⟩ | ⟨rfl, hJx3⟩)
      · gi_wp2
        go_roundw
        case rel => exact ⟨m, _, rfl, by omega, by omega, hJ3, hnx.trans hk3⟩
        case measure => simp [intOf]
      · gi_wp2
        refine bodyPost_ret (results_none rfl _ _ _) rfl ?_
        exact ⟨⟨_, rfl⟩, .inr ⟨_, ⟨len - m, by omega, rfl⟩, hJx3⟩⟩
set_option maxRecDepth 100000 in
set_option maxHeartbeats 1000000 in
/-- .. of an empty row: no round. -/
theorem back1_nil_in (F : Fence) (n : Nat) (hf : F.fn 208) (hro : F.round = none) (l Bs cap : Nat) (A : Option Addr) {α : Type} (J : List α → World → Prop) (W : World) (hBs : W.cell? ⟨Bs, 0, none⟩ = some (.slice A 0 cap)) (h0 : J [] W) :
    CallsIn F n Tryz.prog 208 #[.func (.yield l) #[] #[], .pointer (some ⟨Bs, 0, none⟩)] W fun e W' => (∃ v, e = .returned v) ∧ J [] W' := by
  refine callsIn_of_wp Tryz.func208 rfl hf ?_ hro
  simp only [Tryz.ntmps208, List.size_toArray, List.length_cons, List.length_nil, Nat.reduceAdd, Nat.reduceSub, Array.replicate_succ, Array.replicate_zero, List.push_toArray, List.append_toArray, List.nil_append, List.cons_append]
  gi_wp2
  gi_loopw [3] (fun i wr => i = .int .i64 (-1) ∧ J [] wr) (fun _ _ => 0)
  case atStart => exact ⟨rfl, h0⟩
  case round =>
    obtain ⟨rfl, hJs⟩ := hrel
    gi_wp2
    go_end0
    exact ⟨⟨_, rfl⟩, hJs⟩
/-- slices.Backward: the slice value is boxed; the function value captures the box. -/
theorem back_in (A : Option Addr) (len cap : Nat) (w : World) :
    Calls Tryz.prog 193 #[.slice A len cap] w fun e w' => e = .returned (.func (.func 208) #[] #[.pointer (some ⟨w.heap.size, 0, none⟩)]) ∧ w' = w.alloc (.cells #[.slice A len cap] 33) := by
  go_enter Tryz.func193, Tryz.ntmps193
  go_wp2
  go_ret
  exact ⟨rfl, rfl⟩
/-- The value that it hands back, as a range over a function wants it. -/
theorem back_stops (F : Fence) (n : Nat) (hf : F.fn 208) (hro : F.round = none) (hn : 1 ≤ n) (Bs n₀ len cap : Nat) (A : Option Addr) (zs : List Int) (hlen : len ≤ 1000) (w : World) (hBs : Bs < n₀) (hn₀ : n₀ ≤ w.heap.size)
    (hc : w.cell? ⟨Bs, 0, none⟩ = some (.slice A len cap)) (hI : Sl w n₀ .i64 A len zs) :
    SeqStopsK F n Tryz.prog 208 #[.pointer (some ⟨Bs, 0, none⟩)] (encP zs (len := len)) (Below n₀) (fun ys => ys = come len (plOf len) len)
      (fun pre => ∃ k, k ≤ len ∧ pre = come len (plOf len) k) len w := fun l J Jx W hW _ _ hY h0 => by
  have hc' := (hW.cell (p := ⟨Bs, 0, none⟩) (Nat.lt_of_lt_of_le hBs hn₀)).trans hc
  by_cases h : len = 0
  · subst h
    exact (back1_nil_in F n hf hro l Bs cap A J W hc' h0).mono fun e W' ⟨he, hj⟩ => ⟨he, .inl ⟨_, rfl, hj⟩⟩
  · obtain ⟨b, off, rfl, hb, hcs⟩ := hI.at_ (by omega)
    exact back1_in (plOf len) (encP zs) F n hf hro hn l Bs n₀ b off len cap zs hlen hb (fun m hm => encP_at zs hm) J Jx hY W hc' hBs (fun j hj => (hW.cell (p := ⟨b, off + j, none⟩) (Nat.lt_of_lt_of_le hb hn₀)).trans (hcs j hj)) h0
end Go.Proofs.YtbnkpnllgoghnaaGreat.Back

namespace Go.Proofs.YtbnkpnllgoghnaaGreat.RgO
open Go.ChangeShapes Go.WideShapes Go.ChangeAt Go.RowKit Go.Shelf
open Go.Proofs.YtbnkpnllgoghnaaGreat.Mem Go.Proofs.YtbnkpnllgoghnaaGreat.Blk Go.Proofs.YtbnkpnllgoghnaaGreat.Cells Go.Proofs.YtbnkpnllgoghnaaGreat.Orow Go.Proofs.YtbnkpnllgoghnaaGreat.RfP Go.Proofs.YtbnkpnllgoghnaaGreat.RgP Go.Proofs.YtbnkpnllgoghnaaGreat.RgS Go.Proofs.YtbnkpnllgoghnaaGreat.RgA Go.Proofs.YtbnkpnllgoghnaaGreat.RgB Go.Proofs.YtbnkpnllgoghnaaGreat.Stages Go.Proofs.YtbnkpnllgoghnaaGreat.Back
open Go.Proofs.YtbnkpnllgoghnaaGreat.ArM (Ar Fr)
open Go.Proofs.YtbnkpnllgoghnaaGreat.ArC (ArAt FR)
open Go.Proofs.YtbnkpnllgoghnaaGreat.Dev (Dv DevAt)
open Go.Proofs.YtbnkpnllgoghnaaGreat.ListM (outL frontL okO ints)
open Go.Proofs.YtbnkpnllgoghnaaGreat.HdM (Hs)
open Go.Proofs.YtbnkpnllgoghnaaGreat.RfM (Pl)
open Go.Proofs.YtbnkpnllgoghnaaGreat.RfI (InvE Inv)
attribute [local go_sem] Oper.semAt_some
/-! ### Who goes -/
/-- The last one without pins; -1. -/
def oldV (F : Nat → Fr) (L : List Nat) : Option Nat := (L.filter fun f => decide ((F f).pn = 0)).getLast?
def oldI (F : Nat → Fr) (L : List Nat) : Int := match oldV F L with | none => -1 | some v => (v : Int)
theorem oldV_find (F : Nat → Fr) (L : List Nat) : oldV F L = L.reverse.find? fun f => decide ((F f).pn = 0) := by
  unfold oldV
  rw [List.getLast?_eq_head?_reverse, ← List.filter_reverse, List.head?_filter]
def fv (L : List Nat) (x : Pl L.length) : Nat := L.getD x.1 0
theorem fv_at (L : List Nat) {m : Nat} (h : m < L.length) : fv L (plOf _ m) = L.getD m 0 := by
  unfold fv plOf
  dsimp only
  rw [Nat.min_eq_left (by omega)]
theorem rev_at (zs : List Nat) {j : Nat} (h : j < zs.length) : zs.reverse[j]? = some (zs.getD (zs.length - 1 - j) 0) := by
  rw [List.getElem?_reverse h, List.getD_eq_getElem?_getD, List.getElem?_eq_getElem (by omega)]
  rfl
theorem old_stop {F : Nat → Fr} {L : List Nat} {k : Nat} {ini : List (Pl L.length)} {last : Pl L.length} (hk : k ≤ L.length) (e : come L.length (plOf _) k = ini ++ [last]) (h1 : ∀ y ∈ ini, (F (fv L y)).pn ≠ 0) (h2 : (F (fv L last)).pn = 0) : oldV F L = some (fv L last) := by
  cases k with
  | zero => simp [come] at e
  | succ k =>
    rw [come_succ] at e
    obtain ⟨e1, e2⟩ := List.append_inj' e rfl
    have e2 : plOf L.length (L.length - 1 - k) = last := by simpa using e2
    have e3 : fv L last = L.getD (L.length - 1 - k) 0 := by rw [← e2, fv_at L (by omega)]
    rw [oldV_find, List.find?_eq_some_iff_append]
    refine ⟨decide_eq_true h2, L.reverse.take k, L.reverse.drop (k + 1), ?_, fun y hy => ?_⟩
    · have hkl : k < L.reverse.length := by simp; omega
      have h := rev_at L (j := k) (by omega)
      rw [e3]
      rw [List.getElem?_eq_getElem hkl] at h
      injection h with h
      rw [← h, ← List.drop_eq_getElem_cons hkl, List.take_append_drop]
    · obtain ⟨j, hj, hy⟩ := List.getElem_of_mem hy
      have hjk : j < k := by rw [List.length_take] at hj; omega
      have h := rev_at L (j := j) (by omega)
      rw [List.getElem_take] at hy
      rw [List.getElem?_eq_getElem (by simp; omega), hy] at h
      injection h with h
      have := h1 (plOf _ (L.length - 1 - j)) (by
        rw [← e1]
        unfold come
        exact List.mem_map.2 ⟨j, List.mem_range.2 hjk, rfl⟩)
      rw [fv_at L (by omega), ← h] at this
      rw [decide_eq_false this]
      rfl
theorem old_done {F : Nat → Fr} {L : List Nat} (h1 : ∀ y ∈ come L.length (plOf _) L.length, (F (fv L y)).pn ≠ 0) : oldV F L = none := by
  rw [oldV_find, List.find?_eq_none]
  intro f hf
  rw [List.mem_reverse] at hf
  obtain ⟨j, hj, rfl⟩ := List.getElem_of_mem hf
  have := h1 (plOf _ j) (by
    unfold come
    refine List.mem_map.2 ⟨L.length - 1 - j, List.mem_range.2 (by omega), ?_⟩
    rw [show L.length - 1 - (L.length - 1 - j) = j by omega])
  rw [fv_at L hj, List.getD_eq_getElem?_getD, List.getElem?_eq_getElem hj] at this
  simp only [Option.getD_some] at this
  rw [decide_eq_false this]
  simp
theorem os_sl {w : World} {G : Nat → Prop} {v : Value} {t : TypeId} {s n : Nat} {f : Nat → Value} (h : OS w G v t s n f) : ∃ A c, v = .slice A n c ∧ (0 < n → ∃ g, A = some ⟨g, 0, none⟩ ∧ OR w g t s c n f ∧ G g) := by
  rcases h with ⟨e, h0⟩ | ⟨g, c, e, ho, hg⟩
  · exact ⟨none, 0, by rw [e, h0], fun h => by omega⟩
  · exact ⟨_, c, e, fun _ => ⟨g, rfl, ho, hg⟩⟩
theorem keepsFrom_of {N : Nat} {W W' : World} {F : Nat → Prop} (h : Kept F W W') (hF : ∀ k, F k → k < N) : KeepsFrom N W W' :=
  ⟨h.size, fun k o hN hk _ => (h.block k (Array.getElem?_eq_some_iff.1 hk).1 fun x => by have := hF k x; omega).trans hk⟩
section
variable {w w' : World} {col col' : Nat → Nat} {ν : Nm} {S : Dv} {A : Ar} {L : List Nat} {H : Hs} {T : Nat → Bool}
set_option maxRecDepth 100000 in
set_option maxHeartbeats 4000000 in
theorem oldest_any (x : MAt w col ν S A L H T) (hu : ∀ f ∈ L, f < A.n) (hn : A.n ≤ 32) (hL : L.length ≤ 32) :
    Calls Tryz.prog 177 #[.pointer (some ⟨ν.r, 0, none⟩)] w fun e w' => e = .returned (.int .i64 (oldI A.F L)) ∧ Grow w w' := by
  have c1 := x.c1
  have c3 := x.c3
  have CF : Hid (∀ wx, Grow w wx → Calls Tryz.prog 48 #[.pointer (some ⟨ν.a, 0, none⟩)] wx (ArB.FramesPost A wx)) := fun wx hg => ArB.frames_any (x.grow hg).arena
  have CA : Hid (∀ wx, Grow w wx → Calls Tryz.prog 86 #[.pointer (some ⟨ν.b, 0, none⟩)] wx fun e w' => ∃ A cp, e = .returned (.slice A L.length cp) ∧ Sl w' w'.heap.size .i64 A L.length (ints L) ∧ (∀ x, A = some x → wx.heap.size ≤ x.block) ∧ Grow wx w') := fun wx hg => ListD.all_any (x.grow hg).order
  clear x
  refine (callsIn_wide (n := 6)).1 ?_
  refine callsIn_of_wp_marks Tryz.func177 rfl trivial (wpIn_wide.2 ?_) rfl
  simp only [Tryz.ntmps177, List.size_toArray, List.length_cons, List.length_nil, Nat.reduceAdd, Nat.reduceSub, Array.replicate_succ, Array.replicate_zero, List.push_toArray, List.append_toArray, List.nil_append, List.cons_append]
  have HBS := Lib.hid (Blk.new w 3 [.int .i64 (-1)])
  have HG0 : Hid (Grow w (w.alloc (.cells #[.int .i64 (-1)] 3))) := (Kept.refl _ w).alloc _
  go_wp2
  go_step3
  go_upto_region 2 with (fail)
  obtain ⟨n3, hn3⟩ : ∃ n3, w.heap.size = n3 := ⟨_, rfl⟩
  rw [hn3] at HBS
  have HN3 := Lib.hid hn3
  generalize w.alloc (.cells #[.int .i64 (-1)] 3) = W0 at *
  rw [hn3]
  clear hn3
  have HCF := Lib.hid (CF.out _ HG0.out)
  have c1' := HG0.out.cellN c1 id
  have c3' := HG0.out.cellN c3 id
  clear c1 c3 CF
  go_upto_region 3 with (go_at_call 48; (with_reducible refine HCF.out.mono ?_); rintro e W1 ⟨v, rfl, hos, hg⟩; obtain ⟨A7, c7, rfl, ho⟩ := os_sl hos; have HOR := Lib.hid ho; have HG1 := Lib.hid hg; clear hos hg ho)
  have HB4 := Lib.hid (Blk.new W1 31 [.slice A7 A.n c7])
  have HG1' : Hid (Grow W1 (W1.alloc (.cells #[.slice A7 A.n c7] 31))) := (Kept.refl _ _).alloc _
  have HL4 : Hid (W1.heap.size < (W1.alloc (.cells #[.slice A7 A.n c7] 31)).heap.size) := by show _ < _; simp
  obtain ⟨n4, hn4⟩ : ∃ n4, W1.heap.size = n4 := ⟨_, rfl⟩
  rw [hn4] at HB4 HL4 ⊢
  have HN4 := Lib.hid hn4
  clear hn4
  generalize W1.alloc (.cells #[.slice A7 A.n c7] 31) = W2 at HB4 HG1' HL4 ⊢
  have HG2 : Hid (Grow W0 W2) := HG1.out.trans HG1'.out
  have HOR2 : Hid (0 < A.n → ∃ g, A7 = some ⟨g, 0, none⟩ ∧ OR W2 g 36 5 c7 A.n (ArC.fcell A.F) ∧ W0.heap.size ≤ g) := fun h => by
    obtain ⟨g, e, ho, hg⟩ := HOR.out h
    exact ⟨g, e, ho.grow HG1'.out, hg⟩
  have HB3 := Lib.hid (HBS.out.grow HG2.out)
  clear HOR HBS c1' HCF
  have c3 := HG2.out.cellN c3' id
  clear c3'
  have HCA := Lib.hid (CA.out _ (HG0.out.trans HG2.out))
  clear CA
  go_step3
  go_wp2_with (first
    | (go_at_call 86; (with_reducible refine HCA.out.mono ?_); rintro e W3 ⟨AL, cp, rfl, hs, hn, hg⟩; have HSL := Lib.hid hs; have HAN := Lib.hid hn; have HG3 := Lib.hid hg; clear hs hn hg)
    | (go_at_call 193; (with_reducible refine (back_in _ _ _ _).mono ?_); rintro e W4 ⟨rfl, rfl⟩))
  obtain ⟨n8, hn8⟩ : ∃ n8, W3.heap.size = n8 := ⟨_, rfl⟩
  have HB8 := Lib.hid (Blk.new W3 33 [.slice AL L.length cp])
  have HG3' : Hid (Grow W3 (W3.alloc (.cells #[.slice AL L.length cp] 33))) := (Kept.refl _ _).alloc _
  have HL8 : Hid (n8 + 1 = (W3.alloc (.cells #[.slice AL L.length cp] 33)).heap.size) := by show _ = _; rw [← hn8]; simp
  rw [hn8] at HB8 ⊢
  generalize W3.alloc (.cells #[.slice AL L.length cp] 33) = W4 at HB8 HG3' HL8 ⊢
  have HG4 : Hid (Grow W2 W4) := HG3.out.trans HG3'.out
  have HGW : Hid (Grow w W4) := (HG0.out.trans HG2.out).trans HG4.out
  have HB34 := Lib.hid (HB3.out.grow HG4.out)
  have HB44 := Lib.hid (HB4.out.grow HG4.out)
  have HOR4 : Hid (0 < A.n → ∃ g, A7 = some ⟨g, 0, none⟩ ∧ OR W4 g 36 5 c7 A.n (ArC.fcell A.F) ∧ W0.heap.size ≤ g) := fun h => by
    obtain ⟨g, e, ho, hg⟩ := HOR2.out h
    exact ⟨g, e, ho.grow HG4.out, hg⟩
  have HSL4 : Hid (Sl W4 (n8 + 1) .i64 AL L.length (ints L)) := by
    have h1 := Sl.kept HSL.out HG3'.out (Nat.le_refl _) (fun _ _ x => x)
    rw [hn8] at h1
    exact h1.more (by omega)
  have HM3 : Hid (n3 < W4.heap.size) := HB34.out.lt
  have HU := Lib.hid hu
  have HNW : Hid (w.heap.size ≤ n3) := by have := HN3.out; show _ ≤ _; omega
  clear c3 HCA HB3 HB4 HOR2 HSL hu hn8
  refine (wpIn_wide (n := 6)).1 ?_
  rw [show n8 + 1 = W4.heap.size from HL8.out] at HSL4
  refine wpIn_rangeFunc_ownG rfl (by omega) (gf := 208) (lb := #[.pointer (some ⟨n8, 0, none⟩)]) rfl trivial (enters_of Tryz.func208 (by kernel_rfl) rfl)
    (back_stops Fence.wide _ trivial rfl (by omega) n8 W4.heap.size L.length cp AL (ints L) (by omega) W4 (by have := HL8.out; omega) (Nat.le_refl _) (by have := HB8.out.cell 0; simpa using this) HSL4.out) belowK_t (belowK_b (Nat.le_refl _)) (Below.refl _ _) (fun _ => rfl)
    (fun pre W => (∀ y ∈ pre, (A.F (fv L y)).pn ≠ 0) ∧ Below W4.heap.size W4 W)
    (fun cc pre W => (cc = .exit 0 ∧ ∃ ini last, pre = ini ++ [last] ∧ (∀ y ∈ ini, (A.F (fv L y)).pn ≠ 0) ∧ (A.F (fv L last)).pn = 0 ∧ ∃ W5, Blk W5 n3 3 [.int .i64 (fv L last : Int)] ∧ Kept (· = n3) W4 W5 ∧ Below W4.heap.size W5 W))
    (fun s X Y row hs hg hr => ⟨hs.1, hs.2.grown hg hs.2.size (fun k e => (hr k e).1)⟩)
    (fun cc s X Y row hs hg hr => by
      obtain ⟨h1, ini, last, h2, h3, h4, W5, h5, h6, h7⟩ := hs
      exact ⟨h1, ini, last, h2, h3, h4, W5, h5, h6, h7.grown hg (Nat.le_trans h6.size h7.size) (fun k e => (hr k e).1)⟩)
    ⟨fun y hy => (by cases hy), Below.refl _ _⟩
    (fun x => { tmps := #[.pointer (some ⟨ν.r, 0, none⟩), undef, .int .i64 0, .pointer (some ⟨n3, 0, none⟩), .pointer (some ⟨n4, 0, none⟩), undef, .int .i64 ((ints L).getD x.1 0), .pointer (some ⟨ν.r, 0, none⟩), .pointer (some ⟨ν.r, 0, none⟩), .pointer (some ⟨ν.r, 1, none⟩), .pointer (some ⟨ν.a, 0, none⟩), .slice A7 A.n c7, .pointer (some ⟨ν.r, 0, none⟩), .pointer (some ⟨ν.r, 0, none⟩), .pointer (some ⟨ν.r, 3, none⟩), .pointer (some ⟨ν.b, 0, none⟩), .slice AL L.length cp, .func (.func 208) #[] #[.pointer (some ⟨n8, 0, none⟩)], .int .i64 (x.1 : Int), .int .i64 ((ints L).getD x.1 0), undef, undef, undef, undef, undef, undef, undef, undef], defers := [] }) ?assign ?body ?done ?stop
  case assign =>
    intro l x W K hK
    unfold encP
    gi_wp2
    exact hK
  case body =>
    rintro l pre x W ⟨hpre, hbW⟩ hlt
    have HPRE := Lib.hid hpre
    have HGB : Hid (Grow W4 W) := Kept.of_below hbW
    have HBW := Lib.hid hbW
    rw [ListM.ints_get]
    have hfx : fv L x = L.getD x.1 0 := rfl
    have hmem : L.getD x.1 0 ∈ L := by
      have := x.2
      rw [List.getD_eq_getElem?_getD, List.getElem?_eq_getElem (by omega)]
      exact List.getElem_mem _
    have hfn := HU.out _ hmem
    obtain ⟨g, rfl, ho, hg0⟩ := HOR4.out (by omega)
    have HB3W := Lib.hid (HB34.out.grow HGB.out)
    have HB4W := HB44.out.grow HGB.out
    have hoW := ho.grow HGB.out
    have k4 := HB4W.cell 0
    simp only [List.getElem?_cons_zero] at k4
    have f2 := FR.c2 hoW hfn
    have z3 := HB3W.out.frozen 0
    have r3 := HB3W.out.cell 0
    simp only [List.getElem?_cons_zero] at r3
    have HFX := Lib.hid hfx
    clear hpre hbW hfx hmem ho hoW HOR4 HB4W
    generalize L.getD x.1 0 = f at *
    have hfz : (f : Int) < (A.n : Int) := by omega
    have hnz : (A.n : Int) ≤ 32 := by omega
    by_cases hp : (A.F f).pn = 0
    · have HP := Lib.hid hp
      rw [hp] at f2
      clear hp
      gi_wp2
      have HK := Lib.hid (kept_set W n3 0 (.int .i64 (f : Int)))
      refine ⟨keepsFrom_of HK.out fun k e => ?_, rfl, pre, x, rfl, HPRE.out, by rw [HFX.out]; exact HP.out, _, ?_, (Grow.kept HGB.out).trans HK.out, Below.refl _ _⟩
      · rw [e]; exact HM3.out
      · rw [HFX.out]; exact Blk.set HB3W.out 0 _
    · have HP := Lib.hid hp
      have hpb : ((A.F f).pn == 0) = false := by simpa using hp
      generalize (A.F f).pn = pn at f2 hp hpb
      gi_wp2
      refine ⟨KeepsFrom.refl _ _, Below.refl _ _, fun y hy => ?_, HBW.out⟩
      rcases List.mem_append.1 hy with hy | hy
      · exact HPRE.out y hy
      · simp at hy; subst hy; rw [HFX.out]; exact HP.out
  case done =>
    rintro D ys W hD rfl ⟨hall, hbW⟩ hK
    have HV : Hid (oldI A.F L = -1) := by unfold Hid oldI; rw [old_done hall]
    have HGB : Hid (Grow W4 W) := Kept.of_below hbW
    have hbx := HB34.out.grow HGB.out
    have r3 := hbx.cell 0
    simp only [List.getElem?_cons_zero] at r3
    have HK := Lib.hid hK
    clear hall hbx hK
    go_wp2
    rw [Exit.noGoto_ret]
    refine ⟨by simp, .inl ⟨_, _, rfl, run_takeDeferred HK.out, ?_⟩⟩
    rw [HV.out]
    have kD : Kept (· = D) W (W.putObj D (.deferred none)) := (Kept.refl _ W).grown (grownBy_putObj' W D _) fun k e _ => by cases e; rfl
    have hs := HGW.out.size
    refine ⟨.int .i64 (-1), ?_, rfl, (HGW.out.trans HGB.out).then kD fun k h1 h2 => by omega⟩
    simp [results, Tryz.f177, go_sem]
  case stop =>
    rintro D cc pre W hD ⟨k, hk, rfl⟩ ⟨rfl, ini, last, e1, h1, h2, W5, hB5, hk5, hb5⟩ hK
    have hv := old_stop hk e1 h1 h2
    generalize fv L last = f at *
    have HV : Hid (oldI A.F L = (f : Int)) := by unfold Hid oldI; rw [hv]
    have kb : Kept (W4.heap.size ≤ ·) W5 W := ⟨hb5.os, hb5.tape, hb5.output, hb5.size, fun k hk x => hb5.block k (by omega)⟩
    have hbx := hB5.kept kb fun x => by have := HM3.out; omega
    have r3 := hbx.cell 0
    simp only [List.getElem?_cons_zero] at r3
    have HK := Lib.hid hK
    refine (wpIn_wide (n := 6)).2 ?_
    clear hK e1 h1 h2 hv
    go_wp2
    rw [Exit.noGoto_ret]
    refine ⟨by simp, .inl ⟨_, _, rfl, run_takeDeferred HK.out, ?_⟩⟩
    rw [HV.out]
    have kD : Kept (· = D) W (W.putObj D (.deferred none)) := (Kept.refl _ W).grown (grownBy_putObj' W D _) fun k e _ => by cases e; rfl
    have hs := HGW.out.size
    refine ⟨.int .i64 (f : Int), ?_, rfl, ((HGW.out.then hk5 fun k h1 h2 => by have := HNW.out; omega).then kb fun k h1 h2 => by have := HGW.out.size; omega).then kD fun k h1 h2 => by omega⟩
    simp [results, Tryz.f177, go_sem]
end
end Go.Proofs.YtbnkpnllgoghnaaGreat.RgO

namespace Go.Proofs.YtbnkpnllgoghnaaGreat.ArT
open Go.ChangeShapes Go.WideShapes Go.ChangeAt Go.RowKit
open Go.Proofs.YtbnkpnllgoghnaaGreat.Mem Go.Proofs.YtbnkpnllgoghnaaGreat.Blk Go.Proofs.YtbnkpnllgoghnaaGreat.Cells Go.Proofs.YtbnkpnllgoghnaaGreat.Orow Go.Proofs.YtbnkpnllgoghnaaGreat.GsC Go.Proofs.YtbnkpnllgoghnaaGreat.TabM Go.Proofs.YtbnkpnllgoghnaaGreat.ArM Go.Proofs.YtbnkpnllgoghnaaGreat.ArC Go.Proofs.YtbnkpnllgoghnaaGreat.ArD Go.Proofs.YtbnkpnllgoghnaaGreat.ArB Go.Proofs.YtbnkpnllgoghnaaGreat.Stages
section
variable {w w' : World} {G H F : Nat → Prop} {d g cap dl Dl dt Dt : Nat} {T : Tb} {a : Ar}
theorem take_bad (h : ArAt w G d a) (p : Int) (hc : a.can p = false) : Calls Tryz.prog 147 #[.pointer (some ⟨d, 0, none⟩), .int .i64 p] w fun e w' => e = .returned (.int .i64 (-1)) ∧ w = w' := by
  have HF := Lib.hid (find_any h p)
  by_cases h0 : p < 0
  · clear h hc
    go_enter Tryz.func147, Tryz.ntmps147
    go_wp2
    go_ret
    exact ⟨rfl, rfl⟩
  · have h0' : 0 ≤ p := by omega
    by_cases h1 : 48 ≤ p
    · clear h hc h0
      go_enter Tryz.func147, Tryz.ntmps147
      go_wp2
      go_ret
      exact ⟨rfl, rfl⟩
    · have h1' : p < 48 := by omega
      have h2 : 0 ≤ a.find p := by
        have : ¬ a.find p < 0 := fun x => by
          unfold Ar.can at hc
          rw [decide_eq_true h0', decide_eq_true h1', decide_eq_true x] at hc
          cases hc
        omega
      have h3 : (a.find p != -1) = true := by
        have : (a.find p == -1) = false := by rw [beq_eq_false_iff_ne]; omega
        unfold bne; rw [this]; rfl
      clear h hc h0 h1
      generalize a.find p = q at *
      go_enter Tryz.func147, Tryz.ntmps147
      go_wp2_with (go_at_call 102; (with_reducible refine HF.out.mono ?_); rintro e w' ⟨rfl, rfl⟩)
      go_ret
      exact ⟨rfl, rfl⟩
theorem can_find {p : Int} (h : a.can p = true) : 0 ≤ p ∧ p < 48 ∧ a.find p = -1 := by
  simp only [Ar.can, Bool.and_eq_true, decide_eq_true_eq] at h
  refine ⟨h.1.1, h.1.2, ?_⟩
  rcases find_cases a p with h' | ⟨x, _, _, _, e⟩
  · exact h'.1
  · omega
theorem take_none (h : ArAt w G d a) (p : Int) (hc : a.can p = true) (hq : a.Q = []) : Calls Tryz.prog 147 #[.pointer (some ⟨d, 0, none⟩), .int .i64 p] w fun e w' => e = .returned (.int .i64 (-1)) ∧ w = w' := by
  have HF := Lib.hid (find_any h p)
  obtain ⟨h0, h1, h2⟩ := can_find hc
  rw [h2] at HF
  rcases h.mem with h' | ⟨g, cap, dl, Dl, dt, Dt, T, hb⟩
  · have c1 := h'.h1
    clear h hc h' h2
    go_enter Tryz.func147, Tryz.ntmps147
    go_wp2_with (first
      | (go_at_call 102; (with_reducible refine HF.out.mono ?_); rintro e w' ⟨rfl, rfl⟩)
      | (go_at_call 178; (with_reducible refine ListC.first_nil.mono ?_); rintro e w' ⟨rfl, rfl⟩))
    go_ret
    exact ⟨rfl, rfl⟩
  · have c1 := hb.h1
    have HL := Lib.hid (ListC.first_any hb.li)
    rw [hq] at HL
    clear h hc hb h2
    go_enter Tryz.func147, Tryz.ntmps147
    go_wp2_with (first
      | (go_at_call 102; (with_reducible refine HF.out.mono ?_); rintro e w' ⟨rfl, rfl⟩)
      | (go_at_call 178; (with_reducible refine HL.out.mono ?_); rintro e w' ⟨rfl, rfl⟩))
    go_ret
    exact ⟨rfl, rfl⟩
set_option maxHeartbeats 2000000 in
theorem take_good (h : ArAt w G d a) (p : Int) (hc : a.can p = true) (f : Nat) (q : List Nat) (hq : a.Q = f :: q) : Calls Tryz.prog 147 #[.pointer (some ⟨d, 0, none⟩), .int .i64 p] w (APost G d w (.int .i64 (f : Int)) ⟨a.n, upd a.F f (fUsed p), upd a.B f zeros, q⟩) := by
  obtain ⟨hf, hs, _, _⟩ := h.good.head hq
  have HG := Lib.hid (h.good.takeF hc hq)
  have HF := Lib.hid (find_any h p)
  have hn32 := h.good.n
  obtain ⟨g, cap, dl, Dl, dt, Dt, T, hb⟩ := ArAt.big h (by omega)
  obtain ⟨h0, h1, h2⟩ := can_find hc
  rw [h2] at HF
  have HFI := Lib.hid (ListC.first_any hb.li)
  have HO := Lib.hid (ListD.out_good hb.li f (by rw [hq]; simp))
  rw [show a.Q.erase f = q by rw [hq, List.erase_cons_head]] at HO
  obtain ⟨t1, t2⟩ := hb.ts.put (B' := upd a.B f zeros) (Q' := q) h.good hf (by omega) hc
  have HT := Lib.hid t2
  have HPUT : Hid (∀ w1, TabC.TabAt w1 dt Dt T → Calls Tryz.prog 179 #[.pointer (some ⟨dt, 0, none⟩), .int .i64 p, .int .i64 (f : Int)] w1 (TabO.TabPost dt Dt w1 0 (T.put p (f : Int)))) := fun w1 ht => by
    have := TabO.put_any ht p (f : Int)
    rwa [t1] at this
  have HI := Lib.hid hb.core
  have HP := Lib.hid hb.pos
  have HBL := Lib.hid h.good.b
  have HFE : Hid (∀ w1, Core w1 G d g cap dl Dl dt Dt (T.put p (f : Int)) ⟨a.n, a.F, a.B, q⟩ → FR (setF w1 g f (fUsed p)) g cap a.n (upd a.F f (fUsed p))) := fun w1 h1 => FR.setF h1.fr f (fUsed p)
  have c1 := hb.h1
  have hfz : (f : Int) < (a.n : Int) := by omega
  have hnz : (a.n : Int) ≤ 32 := by omega
  have hfe : ((f : Int) == -1) = false := by rw [beq_eq_false_iff_ne]; omega
  generalize hfst : ListM.first a.Q = ff at *
  have hff : ff = (f : Int) := by rw [← hfst, hq]; rfl
  subst hff
  clear hfst h hc hb h2 t1 t2 hq hs
  generalize T.put p (f : Int) = T2 at *
  go_enter Tryz.func147, Tryz.ntmps147
  go_upto_region 9 with (first
    | (go_at_call 102; (with_reducible refine HF.out.mono ?_); rintro e w' ⟨rfl, rfl⟩)
    | (go_at_call 178; (with_reducible refine HFI.out.mono ?_); rintro e w' ⟨rfl, rfl⟩)
    | (go_at_call 153; (with_reducible refine HO.out.mono ?_); rintro e w1 ⟨rfl, hl, hk⟩; have H1 := Lib.hid (HI.out.lst hl hk); have HK1 := Lib.hid (HI.out.kl hk); clear hl hk c1; have c2 := H1.out.h2)
    | (go_at_call 179; (with_reducible refine (HPUT.out _ H1.out.ta).mono ?_); rintro e w2 ⟨rfl, ht, hk⟩; have H2 := Lib.hid (H1.out.tab ht hk); have HK2 := Lib.hid (HI.out.kt hk); clear ht hk c2; have c0 := H2.out.h0; have f0 := FR.c0 H2.out.fr hf; have f1 := FR.c1 H2.out.fr hf; have f2 := FR.c2 H2.out.fr hf; have f3 := FR.c3 H2.out.fr hf; have f4 := FR.c4 H2.out.fr hf; have fz := H2.out.fr.frozen))
  rw [show (((((w2.setCell ⟨g, f * 5, none⟩ (.int .i64 1)).setCell ⟨g, f * 5 + 1, none⟩ (.int .i64 p)).setCell ⟨g, f * 5 + 2, none⟩ (.int .i64 0)).setCell ⟨g, f * 5 + 3, none⟩ (.int .i64 0)).setCell ⟨g, f * 5 + 4, none⟩ (.bool false)) = setF w2 g f (fUsed p) from rfl]
  have H3 := Lib.hid (H2.out.frm (HFE.out w2 H2.out) (kept_setF _ _ _ _))
  have HK3 := Lib.hid (HI.out.kg (kept_setF w2 g f (fUsed p)))
  clear c0 f0 f1 f2 f3 f4 fz H2 HFE
  generalize setF w2 g f (fUsed p) = w3 at *
  have hbc := fun j (hj : j < 16) => acell_b (.slice (some ⟨g, 0, none⟩) a.n cap) (.pointer (some ⟨dl, 0, none⟩)) (.pointer (some ⟨dt, 0, none⟩)) a.B f j (by omega) hj
  have hrw := H3.out.hd
  dsimp only at hrw
  have hbs : ∀ j, j < 16 → w3.cell? ⟨d, 1 + f * 16 + j, none⟩ = some (.int .u8 ((a.B f).getD j 0)) := fun j hj => by rw [hrw.cell (by omega), hbc j hj]
  have b0 : w3.cell? ⟨d, 1 + f * 16, none⟩ = some (.int .u8 ((a.B f).getD 0 0)) := hbs 0 (by omega)
  have b1 : w3.cell? ⟨d, 1 + f * 16 + 1, none⟩ = some (.int .u8 ((a.B f).getD 1 0)) := hbs 1 (by omega)
  have b2 : w3.cell? ⟨d, 1 + f * 16 + 2, none⟩ = some (.int .u8 ((a.B f).getD 2 0)) := hbs 2 (by omega)
  have b3 : w3.cell? ⟨d, 1 + f * 16 + 3, none⟩ = some (.int .u8 ((a.B f).getD 3 0)) := hbs 3 (by omega)
  have b4 : w3.cell? ⟨d, 1 + f * 16 + 4, none⟩ = some (.int .u8 ((a.B f).getD 4 0)) := hbs 4 (by omega)
  have b5 : w3.cell? ⟨d, 1 + f * 16 + 5, none⟩ = some (.int .u8 ((a.B f).getD 5 0)) := hbs 5 (by omega)
  have b6 : w3.cell? ⟨d, 1 + f * 16 + 6, none⟩ = some (.int .u8 ((a.B f).getD 6 0)) := hbs 6 (by omega)
  have b7 : w3.cell? ⟨d, 1 + f * 16 + 7, none⟩ = some (.int .u8 ((a.B f).getD 7 0)) := hbs 7 (by omega)
  have b8 : w3.cell? ⟨d, 1 + f * 16 + 8, none⟩ = some (.int .u8 ((a.B f).getD 8 0)) := hbs 8 (by omega)
  have b9 : w3.cell? ⟨d, 1 + f * 16 + 9, none⟩ = some (.int .u8 ((a.B f).getD 9 0)) := hbs 9 (by omega)
  have b10 : w3.cell? ⟨d, 1 + f * 16 + 10, none⟩ = some (.int .u8 ((a.B f).getD 10 0)) := hbs 10 (by omega)
  have b11 : w3.cell? ⟨d, 1 + f * 16 + 11, none⟩ = some (.int .u8 ((a.B f).getD 11 0)) := hbs 11 (by omega)
  have b12 : w3.cell? ⟨d, 1 + f * 16 + 12, none⟩ = some (.int .u8 ((a.B f).getD 12 0)) := hbs 12 (by omega)
  have b13 : w3.cell? ⟨d, 1 + f * 16 + 13, none⟩ = some (.int .u8 ((a.B f).getD 13 0)) := hbs 13 (by omega)
  have b14 : w3.cell? ⟨d, 1 + f * 16 + 14, none⟩ = some (.int .u8 ((a.B f).getD 14 0)) := hbs 14 (by omega)
  have b15 : w3.cell? ⟨d, 1 + f * 16 + 15, none⟩ = some (.int .u8 ((a.B f).getD 15 0)) := hbs 15 (by omega)
  have fz := hrw.frozen
  have HROW : Hid (Row (w3.setCells d (1 + f * 16) ((List.range 16).map (bcell zeros))) d 515 (acell (.slice (some ⟨g, 0, none⟩) a.n cap) (upd a.B f zeros) (.pointer (some ⟨dl, 0, none⟩)) (.pointer (some ⟨dt, 0, none⟩)))) := by
    refine (Row.laid hrw (1 + f * 16) (bcell zeros)).congr fun i hi => ?_
    have := acell_set (.slice (some ⟨g, 0, none⟩) a.n cap) (.pointer (some ⟨dl, 0, none⟩)) (.pointer (some ⟨dt, 0, none⟩)) (B := a.B) (f := f) (o := 0) (zs := zeros) (by omega) HBL.out (Nat.le_refl _) i hi
    rw [show ArM.splice (a.B f) 0 zeros = zeros by unfold ArM.splice; rw [List.take_zero, List.drop_of_length_le (by rw [HBL.out f]; exact Nat.le_refl _)]; rfl] at this
    exact this
  have HKR := Lib.hid (kept_setCells d ((List.range 16).map (bcell zeros)) w3 (1 + f * 16))
  clear hrw hbc hbs
  go_wp2
  go_ret
  rw [show ((((((((((((((((w3.setCell ⟨d, 1 + f * 16, none⟩ (.int .u8 0)).setCell ⟨d, 1 + f * 16 + 1, none⟩ (.int .u8 0)).setCell ⟨d, 1 + f * 16 + 2, none⟩ (.int .u8 0)).setCell ⟨d, 1 + f * 16 + 3, none⟩ (.int .u8 0)).setCell ⟨d, 1 + f * 16 + 4, none⟩ (.int .u8 0)).setCell ⟨d, 1 + f * 16 + 5, none⟩ (.int .u8 0)).setCell ⟨d, 1 + f * 16 + 6, none⟩ (.int .u8 0)).setCell ⟨d, 1 + f * 16 + 7, none⟩ (.int .u8 0)).setCell ⟨d, 1 + f * 16 + 8, none⟩ (.int .u8 0)).setCell ⟨d, 1 + f * 16 + 9, none⟩ (.int .u8 0)).setCell ⟨d, 1 + f * 16 + 10, none⟩ (.int .u8 0)).setCell ⟨d, 1 + f * 16 + 11, none⟩ (.int .u8 0)).setCell ⟨d, 1 + f * 16 + 12, none⟩ (.int .u8 0)).setCell ⟨d, 1 + f * 16 + 13, none⟩ (.int .u8 0)).setCell ⟨d, 1 + f * 16 + 14, none⟩ (.int .u8 0)).setCell ⟨d, 1 + f * 16 + 15, none⟩ (.int .u8 0)) = w3.setCells d (1 + f * 16) ((List.range 16).map (bcell zeros)) from rfl]
  exact ⟨rfl, ⟨HG.out, .inr ⟨_, _, _, _, _, _, _, (H3.out.hdr HROW.out HKR.out).big HT.out HP.out⟩⟩, ((HK1.out.trans HK2.out).trans HK3.out).trans (HI.out.kd HKR.out)⟩
theorem take_any (h : ArAt w G d a) (p : Int) : Calls Tryz.prog 147 #[.pointer (some ⟨d, 0, none⟩), .int .i64 p] w (APost G d w (.int .i64 (a.takeC p)) (a.take p)) := by
  cases hc : a.can p with
  | false =>
    have e1 : a.takeC p = -1 := by unfold Ar.takeC; rw [hc]; rfl
    have e2 : a.take p = a := by unfold Ar.take; rw [hc]; rfl
    rw [e1, e2]
    exact (take_bad h p hc).mono fun e w' ⟨h1, h2⟩ => ⟨h1, h2 ▸ h, h2 ▸ Kept.refl _ _⟩
  | true =>
    cases hq : a.Q with
    | nil =>
      have e1 : a.takeC p = -1 := by unfold Ar.takeC; rw [if_pos hc, hq]; rfl
      have e2 : a.take p = a := by unfold Ar.take; rw [if_pos hc, hq]; rfl
      rw [e1, e2]
      exact (take_none h p hc hq).mono fun e w' ⟨h1, h2⟩ => ⟨h1, h2 ▸ h, h2 ▸ Kept.refl _ _⟩
    | cons f q =>
      have e1 : a.takeC p = (f : Int) := by unfold Ar.takeC; rw [if_pos hc, hq]; rfl
      have e2 : a.take p = ⟨a.n, upd a.F f (fUsed p), upd a.B f zeros, q⟩ := by unfold Ar.take; rw [if_pos hc, hq]; rfl
      rw [e1, e2]
      exact take_good h p hc f q hq
end
end Go.Proofs.YtbnkpnllgoghnaaGreat.ArT

namespace Go.Proofs.YtbnkpnllgoghnaaGreat.RgD
open Go.ChangeShapes Go.WideShapes Go.ChangeAt Go.RowKit
open Go.Proofs.YtbnkpnllgoghnaaGreat.Mem Go.Proofs.YtbnkpnllgoghnaaGreat.Blk Go.Proofs.YtbnkpnllgoghnaaGreat.Cells Go.Proofs.YtbnkpnllgoghnaaGreat.Orow Go.Proofs.YtbnkpnllgoghnaaGreat.RfP Go.Proofs.YtbnkpnllgoghnaaGreat.RgP Go.Proofs.YtbnkpnllgoghnaaGreat.RgS Go.Proofs.YtbnkpnllgoghnaaGreat.RgA Go.Proofs.YtbnkpnllgoghnaaGreat.RgB Go.Proofs.YtbnkpnllgoghnaaGreat.RgC Go.Proofs.YtbnkpnllgoghnaaGreat.RgO Go.Proofs.YtbnkpnllgoghnaaGreat.Stages
open Go.Proofs.YtbnkpnllgoghnaaGreat.ArM (Ar Fr fUsed fFree)
open Go.Proofs.YtbnkpnllgoghnaaGreat.ArC (ArAt FR)
open Go.Proofs.YtbnkpnllgoghnaaGreat.Dev (Dv DevAt)
open Go.Proofs.YtbnkpnllgoghnaaGreat.ListM (outL frontL okO okF)
open Go.Proofs.YtbnkpnllgoghnaaGreat.HdM (Hs)
open Go.Proofs.YtbnkpnllgoghnaaGreat.RfM (Pl)
open Go.Proofs.YtbnkpnllgoghnaaGreat.RfI (InvE Inv)
open Go.Proofs.YtbnkpnllgoghnaaGreat.RgM (Bnd saveC saveS)
/-! ### What the pool's parts come to -/
section
variable {p : Pl} {h : Option Nat} {f q v K : Nat} {t : List Nat}
theorem len32 (i : InvE p h) : p.L.length ≤ 32 := by
  have h1 := i.ga.n
  have h2 := ArM.len_cnt (n := p.A.n) (p := fun x => decide ((p.A.F x).st = 1)) i.nd fun x => by rw [i.mem x]; simp
  have h3 := TabM.cnt_le (fun x => decide ((p.A.F x).st = 1)) p.A.n
  omega
theorem bytes_of (i : Inv p) (hf : f < p.A.n) (hs : (p.A.F f).st = 1) : MdM.Bytes (p.A.B f) := by
  obtain ⟨q, _, hp⟩ := i.pg f hf hs
  rw [(i.use f q hf hs hp (by simp)).2.2.1]
  exact i.gx.byt q
theorem out_no {L : List Nat} (h : f ∉ L) : outL L (f : Int) = L := by
  unfold outL okO
  simp [h]
theorem front_is {L : List Nat} (h : f ∉ L) (h2 : f < K) : frontL K L (f : Int) = f :: L := by
  unfold frontL okF
  rw [if_pos, Int.toNat_natCast]
  simp [h, h2]
theorem take_is (i : Inv p) (hq : q < p.X.n) (hno : ∀ x, x < p.A.n → (p.A.F x).st = 1 → (p.A.F x).pg ≠ (q : Int)) (hQ : p.A.Q = f :: t) :
    p.A.takeC (q : Int) = (f : Int) ∧ p.take (q : Int) = (((f : Int), 0), ⟨p.X, p.D, p.A.take (q : Int), f :: p.L⟩) ∧ (f ∉ p.L ∧ f < p.A.n) := by
  obtain ⟨h1, h2, h3, h4⟩ := i.taken hq hno hQ
  have hc : p.A.takeC (q : Int) = (f : Int) := by
    unfold Ar.takeC
    rw [if_pos h4, hQ]
    rfl
  have hfL : f ∉ p.L := fun hm => by have := ((i.mem f).1 hm).2; omega
  have := i.ga.n
  exact ⟨hc, by unfold Pl.take; rw [hc, front_is hfL (by omega)], hfL, h2⟩
/-- Who is thrown out. -/
def repC (p : Pl) : Int := match p.vic with | none => 8 | some v => saveC p v
def repS (p : Pl) : Pl := match p.vic with | none => p | some v => if saveC p v = 0 then (saveS p v).drop v else saveS p v
theorem room_old (hQ : p.A.Q = []) : p.room (q : Int) = if repC p = 0 then (repS p).take (q : Int) else ((-1, repC p), repS p) := by
  unfold Pl.room repC repS
  rw [if_pos hQ]
  cases hv : p.vic with
  | none => simp
  | some v =>
    dsimp only
    unfold Pl.evict saveC saveS
    by_cases hd : (p.A.F v).di = true
    · by_cases hw : p.wrC v = 0
      · simp [hd, hw]
      · simp [hd, hw]
    · simp [hd]
theorem room_new (hQ : p.A.Q = f :: t) : p.room (q : Int) = p.take (q : Int) := by
  unfold Pl.room
  rw [if_neg (by rw [hQ]; exact List.cons_ne_nil _ _)]
/-- What is thrown out leaves a free frame. -/
theorem rep_spec (i : Inv p) (hQ : p.A.Q = []) (hno : ∀ x, x < p.A.n → (p.A.F x).st = 1 → (p.A.F x).pg ≠ (q : Int)) (hc : repC p = 0) : ∃ v, p.vic = some v ∧ Inv (repS p) ∧ (repS p).A.Q = [v] ∧ (repS p).A.n = p.A.n ∧ (repS p).X = p.X ∧ ∀ x, x < (repS p).A.n → ((repS p).A.F x).st = 1 → ((repS p).A.F x).pg ≠ (q : Int) := by
  cases hv : p.vic with
  | none =>
    unfold repC at hc
    rw [hv] at hc
    have hc : (8 : Int) = 0 := hc
    exact absurd hc (by decide)
  | some v =>
    obtain ⟨hm, hpn⟩ := RfR.vic_some hv
    obtain ⟨hf, hs⟩ := (i.mem v).1 hm
    obtain ⟨r, hr, hp⟩ := i.pg v hf hs
    have e : repS p = if saveC p v = 0 then (saveS p v).drop v else saveS p v := by unfold repS; rw [hv]
    have hc' : saveC p v = 0 := by unfold repC at hc; rw [hv] at hc; exact hc
    rw [if_pos hc'] at e
    obtain ⟨g1, i1, hL1, hQ1, hF1, hd1⟩ : RfR.Go p (saveS p v) ∧ Inv (saveS p v) ∧ (saveS p v).L = p.L ∧ (saveS p v).A.Q = p.A.Q ∧ (∀ x, ((saveS p v).A.F x).st = (p.A.F x).st ∧ ((saveS p v).A.F x).pg = (p.A.F x).pg ∧ ((saveS p v).A.F x).pn = (p.A.F x).pn) ∧ ((saveS p v).A.F v).di = false := by
      cases hd : (p.A.F v).di with
      | false =>
        have e2 : saveS p v = p := by unfold saveS; rw [hd]; rfl
        rw [e2]
        exact ⟨RfR.Go.refl p, i, rfl, rfl, fun x => ⟨rfl, rfl, rfl⟩, hd⟩
      | true =>
        have e2 : saveS p v = p.wr v := by unfold saveS; rw [hd]; rfl
        have e3 : p.wrC v = 0 := by unfold saveC at hc'; rw [hd] at hc'; exact hc'
        obtain ⟨h1, h2, h3, h4, h5, h6⟩ := RfR.wr_spec i hf hs hp (by simp)
        rw [e2]
        rcases h6 with ⟨_, h6, h7⟩ | ⟨h6, _⟩
        · refine ⟨h1, h2, h3, h4, fun x => ?_, by rw [h6, TabM.upd_same]⟩
          rw [h6]
          by_cases ex : x = v
          · subst ex; rw [TabM.upd_same]; exact ⟨hs.symm, hp.symm, rfl⟩
          · rw [TabM.upd_other _ _ ex]; exact ⟨rfl, rfl, rfl⟩
        · rw [e3] at h6; exact absurd h6 (by decide)
    obtain ⟨x1, x2, x3⟩ := hF1 v
    obtain ⟨g2, i2, h8, h9, h10⟩ := RfR.drop_spec i1 (f := v) (q := r) (by rw [g1.n]; exact hf) (by rw [x1]; exact hs) (by rw [x2]; exact hp) (by rw [x3]; exact hpn) (.inr hd1)
    rw [e]
    refine ⟨v, rfl, i2, by rw [h9, hQ1, hQ]; rfl, g2.n.trans g1.n, g2.X.trans g1.X, fun x hx hsx => ?_⟩
    rw [g2.n, g1.n] at hx
    rw [h10] at hsx ⊢
    by_cases ex : x = v
    · subst ex; rw [TabM.upd_same] at hsx; have : (0 : Int) = 1 := hsx; omega
    · rw [TabM.upd_other _ _ ex] at hsx ⊢
      obtain ⟨y1, y2, _⟩ := hF1 x
      rw [y1] at hsx
      rw [y2]
      exact hno x hx hsx
end
/-! ### The calls -/
section
variable {w w' : World} {col col' : Nat → Nat} {ν : Nm} {H : Hs} {T : Nat → Bool} {p : Pl} {f q k : Nat} {t : List Nat}
set_option maxRecDepth 100000 in
theorem replace_any (x : MAt w col ν p.D p.A p.L H T) (i : Inv p) (hl : Bnd p.D k) (hk : k ≤ 1000000) :
    Calls Tryz.prog 146 #[.pointer (some ⟨ν.r, 0, none⟩)] w (Post ν w col (.int .i64 (repC p)) (repS p).D (repS p).A (repS p).L H T) := by
  have HO := Lib.hid (oldest_any x (fun f hf => ((i.mem f).1 hf).1) i.ga.n (len32 i))
  have HX := Lib.hid x
  cases hv : p.vic with
  | none =>
    have e : oldI p.A.F p.L = -1 := by unfold oldI; rw [show oldV p.A.F p.L = none from hv]
    have E1 : Hid (repC p = 8) := by unfold Hid repC; rw [hv]
    have E2 : Hid (repS p = p) := by unfold Hid repS; rw [hv]
    rw [e] at HO
    rw [E1.out, E2.out]
    clear x i hl hk e hv
    go_enter Tryz.func146, Tryz.ntmps146
    go_wp2_with (go_at_call 177; (with_reducible refine HO.out.mono ?_); rintro e w1 ⟨rfl, hg⟩; have HG := Lib.hid hg; clear hg)
    go_ret
    exact ⟨rfl, HX.out.grow' HG.out⟩
  | some v =>
    have e : oldI p.A.F p.L = (v : Int) := by unfold oldI; rw [show oldV p.A.F p.L = some v from hv]
    obtain ⟨hm, hpn⟩ := RfR.vic_some hv
    obtain ⟨hf, hs⟩ := (i.mem v).1 hm
    have hvz : ¬ ((v : Int) = -1) := by omega
    have hvb : ((v : Int) == -1) = false := by simp
    rw [e] at HO
    have CS : Hid (∀ wx cx, MAt wx cx ν p.D p.A p.L H T → Calls Tryz.prog 101 #[.pointer (some ⟨ν.r, 0, none⟩), .int .i64 (v : Int)] wx (Post ν wx cx (.int .i64 (saveC p v)) (saveS p v).D (saveS p v).A (saveS p v).L H T)) := fun wx cx y => save_any y i hf (bytes_of i hf hs) hl hk
    by_cases hc : saveC p v = 0
    · have E1 : Hid (repC p = 0) := by unfold Hid repC; rw [hv]; exact hc
      have E2 : Hid (repS p = (saveS p v).drop v) := by unfold Hid repS; rw [hv]; exact if_pos hc
      rw [hc] at CS
      rw [E1.out, E2.out]
      clear x i hl hk e hv hm hpn hf hs hc hvz
      go_enter Tryz.func146, Tryz.ntmps146
      go_wp2_with (first
        | (go_at_call 177; (with_reducible refine HO.out.mono ?_); rintro e w1 ⟨rfl, hg⟩; have HG := Lib.hid hg; have HS := Lib.hid (CS.out w1 _ (HX.out.grow hg)); clear hg)
        | (go_at_call 101; (with_reducible refine HS.out.mono ?_); rintro e w2 ⟨rfl, c2, hw2, hm2⟩; have HW2 := Lib.hid ((Went.grow HG.out).trans hw2); have HM2 := Lib.hid hm2; have HD := Lib.hid (drop_any hm2 (v : Int)); clear hw2 hm2)
        | (go_at_call 107; (with_reducible refine HD.out.mono ?_); rintro e w3 ⟨rfl, c3, hw3, hm3⟩; have HW3 := Lib.hid (HW2.out.trans hw3); have HM3 := Lib.hid hm3; clear hw3 hm3))
      go_ret
      exact ⟨rfl, c3, HW3.out, HM3.out⟩
    · have E1 : Hid (repC p = saveC p v) := by unfold Hid repC; rw [hv]
      have E2 : Hid (repS p = saveS p v) := by unfold Hid repS; rw [hv]; exact if_neg hc
      rw [E1.out, E2.out]
      have hcb : (saveC p v != 0) = true := by simpa using hc
      clear x i hl hk e hv hm hpn hf hs hvz E1 E2
      generalize saveC p v = cc at *
      go_enter Tryz.func146, Tryz.ntmps146
      go_wp2_with (first
        | (go_at_call 177; (with_reducible refine HO.out.mono ?_); rintro e w1 ⟨rfl, hg⟩; have HG := Lib.hid hg; have HS := Lib.hid (CS.out w1 _ (HX.out.grow hg)); clear hg)
        | (go_at_call 101; (with_reducible refine HS.out.mono ?_); rintro e w2 ⟨rfl, c2, hw2, hm2⟩; have HW2 := Lib.hid ((Went.grow HG.out).trans hw2); have HM2 := Lib.hid hm2; clear hw2 hm2))
      go_ret
      exact ⟨rfl, c2, HW2.out, HM2.out⟩
/-- What room tells, and leaves. -/
def RoomPost (ν : Nm) (w : World) (col : Nat → Nat) (y : (Int × Int) × Pl) (H : Hs) (T : Nat → Bool) : Ending → World → Prop := Post ν w col (.tuple #[.int .i64 y.1.1, .int .i64 y.1.2]) y.2.D y.2.A y.2.L H T
set_option maxRecDepth 100000 in
theorem room_any (x : MAt w col ν p.D p.A p.L H T) (i : Inv p) (hq : q < p.X.n) (hno : ∀ x, x < p.A.n → (p.A.F x).st = 1 → (p.A.F x).pg ≠ (q : Int)) (hK : ν.K = p.A.n) (hl : Bnd p.D k) (hk : k ≤ 1000000) :
    Calls Tryz.prog 90 #[.pointer (some ⟨ν.r, 0, none⟩), .int .i64 (q : Int)] w (RoomPost ν w col (p.room (q : Int)) H T) := by
  have c1 := x.c1
  have HF := Lib.hid (ArD.free_any x.arena)
  have HX := Lib.hid x
  unfold RoomPost
  cases hQ : p.A.Q with
  | cons f t =>
    obtain ⟨t1, t2, t3, t4⟩ := take_is i hq hno hQ
    have HT := Lib.hid (ArT.take_any x.arena (q : Int))
    have E : Hid (p.room (q : Int) = (((f : Int), 0), ⟨p.X, p.D, p.A.take (q : Int), f :: p.L⟩)) := (room_new hQ).trans t2
    have EL : Hid (frontL ν.K (outL p.L (f : Int)) (f : Int) = f :: p.L) := by rw [out_no t3]; exact front_is t3 (by omega)
    have hqb : (((f :: t).length : Int) == 0) = false := by simp; omega
    rw [t1] at HT
    rw [hQ] at HF
    rw [E.out]
    clear x i hq hno hK hl hk t1 t2 t3 t4 E
    generalize (f :: t).length = m at *
    go_enter Tryz.func90, Tryz.ntmps90
    go_wp2_with (first
      | (go_at_call 145; (with_reducible refine HF.out.mono ?_); rintro e w1 ⟨rfl, rfl⟩)
      | (go_at_call 147; (with_reducible refine HT.out.mono ?_); rintro e w1 ⟨rfl, ha, hk⟩; obtain ⟨c2, hw2, hm2⟩ := HX.out.setA ha hk; have HW2 := Lib.hid hw2; have HTO := Lib.hid (touch_any hm2 (f : Int)); clear ha hk hw2 hm2)
      | (go_at_call 96; (with_reducible refine HTO.out.mono ?_); rintro e w3 ⟨rfl, c3, hw3, hm3⟩; have HW3 := Lib.hid (HW2.out.trans hw3); have HM3 := Lib.hid hm3; clear hw3 hm3))
    go_ret2
    have h3 := HM3.out
    rw [EL.out] at h3
    exact ⟨rfl, c3, HW3.out, h3⟩
  | nil =>
    have HR := Lib.hid (replace_any x i hl hk)
    have E := room_old (q := q) hQ
    rw [hQ] at HF
    by_cases hc : repC p = 0
    · obtain ⟨v, _, i1, hQ1, hn1, hX1, hno1⟩ := rep_spec i hQ hno hc
      obtain ⟨t1, t2, t3, t4⟩ := take_is (q := q) i1 (by rw [hX1]; exact hq) hno1 hQ1
      rw [if_pos hc, t2] at E
      have EH := Lib.hid E
      have EL : Hid (frontL ν.K (outL (repS p).L (v : Int)) (v : Int) = v :: (repS p).L) := by rw [out_no t3]; exact front_is t3 (by omega)
      rw [hc] at HR
      rw [EH.out]
      have ET := Lib.hid t1
      clear x i hq hno hK hl hk t1 t2 t3 t4 E hc i1 hQ1 hn1 hX1 hno1 hQ
      go_enter Tryz.func90, Tryz.ntmps90
      go_wp2_with (first
        | (go_at_call 145; (with_reducible refine HF.out.mono ?_); rintro e w1 ⟨rfl, rfl⟩)
        | (go_at_call 146; (with_reducible refine HR.out.mono ?_); rintro e w1 ⟨rfl, c1', hw1, hm1⟩; have HW1 := Lib.hid hw1; have d1 := hm1.c1; have HT := Lib.hid (ArT.take_any hm1.arena (q : Int)); rw [ET.out] at HT; have HM1 := Lib.hid hm1; clear hw1 hm1 c1)
        | (go_at_call 147; (with_reducible refine HT.out.mono ?_); rintro e w1 ⟨rfl, ha, hk⟩; obtain ⟨c2, hw2, hm2⟩ := HM1.out.setA ha hk; have HW2 := Lib.hid (HW1.out.trans hw2); have HTO := Lib.hid (touch_any hm2 (v : Int)); clear ha hk hw2 hm2 d1)
        | (go_at_call 96; (with_reducible refine HTO.out.mono ?_); rintro e w3 ⟨rfl, c3, hw3, hm3⟩; have HW3 := Lib.hid (HW2.out.trans hw3); have HM3 := Lib.hid hm3; clear hw3 hm3))
      go_ret2
      have h3 := HM3.out
      rw [EL.out] at h3
      exact ⟨rfl, c3, HW3.out, h3⟩
    · rw [if_neg hc] at E
      have EH := Lib.hid E
      rw [EH.out]
      have hcb : (repC p != 0) = true := by simpa using hc
      clear x i hq hno hK hl hk E hQ EH
      generalize repC p = cc at *
      go_enter Tryz.func90, Tryz.ntmps90
      go_wp2_with (first
        | (go_at_call 145; (with_reducible refine HF.out.mono ?_); rintro e w1 ⟨rfl, rfl⟩)
        | (go_at_call 146; (with_reducible refine HR.out.mono ?_); rintro e w1 ⟨rfl, c1', hw1, hm1⟩; have HW1 := Lib.hid hw1; have HM1 := Lib.hid hm1; clear hw1 hm1 c1))
      go_ret2
      exact ⟨rfl, c1', HW1.out, HM1.out⟩
end
end Go.Proofs.YtbnkpnllgoghnaaGreat.RgD

namespace Go.Proofs.YtbnkpnllgoghnaaGreat.RgE
open Go.ChangeShapes Go.WideShapes Go.ChangeAt Go.RowKit
open Go.Proofs.YtbnkpnllgoghnaaGreat.Mem Go.Proofs.YtbnkpnllgoghnaaGreat.Blk Go.Proofs.YtbnkpnllgoghnaaGreat.Cells Go.Proofs.YtbnkpnllgoghnaaGreat.Orow Go.Proofs.YtbnkpnllgoghnaaGreat.RfP Go.Proofs.YtbnkpnllgoghnaaGreat.RgP Go.Proofs.YtbnkpnllgoghnaaGreat.RgS Go.Proofs.YtbnkpnllgoghnaaGreat.RgA Go.Proofs.YtbnkpnllgoghnaaGreat.RgB Go.Proofs.YtbnkpnllgoghnaaGreat.RgC Go.Proofs.YtbnkpnllgoghnaaGreat.RgO Go.Proofs.YtbnkpnllgoghnaaGreat.RgD Go.Proofs.YtbnkpnllgoghnaaGreat.Stages
open Go.Proofs.YtbnkpnllgoghnaaGreat.ArM (Ar Fr fUsed fFree)
open Go.Proofs.YtbnkpnllgoghnaaGreat.ArC (ArAt FR)
open Go.Proofs.YtbnkpnllgoghnaaGreat.Dev (Dv DevAt)
open Go.Proofs.YtbnkpnllgoghnaaGreat.ListM (outL frontL okO okF)
open Go.Proofs.YtbnkpnllgoghnaaGreat.HdM (Hs)
open Go.Proofs.YtbnkpnllgoghnaaGreat.RfM (Pl)
open Go.Proofs.YtbnkpnllgoghnaaGreat.RfI (InvE Inv)
open Go.Proofs.YtbnkpnllgoghnaaGreat.RgM (Bnd saveC saveS)
section
variable {w w' : World} {col col' : Nat → Nat} {ν : Nm} {H : Hs} {T : Nat → Bool} {p : Pl} {h : Option Nat} {f q k : Nat} {t : List Nat}
/-- What a touch makes of the order. -/
theorem touched (i : InvE p h) (hf : f < p.A.n) (hs : (p.A.F f).st = 1) {K : Nat} (hK : K = p.A.n) : frontL K (outL p.L (f : Int)) (f : Int) = (p.front (f : Int)).L ∧ (p.front (f : Int)).A = p.A ∧ (p.front (f : Int)).D = p.D := by
  obtain ⟨e, _, _⟩ := RfF.front_list i hf hs
  obtain ⟨_, h2⟩ := RfR.out_mem ((i.mem f).2 ⟨hf, hs⟩)
  rw [e, h2]
  exact ⟨front_is (fun hx => (i.nd.mem_erase_iff.1 hx).1 rfl) (by omega), rfl, rfl⟩
set_option maxRecDepth 100000 in
theorem bring_any (x : MAt w col ν p.D p.A p.L H T) (i : Inv p) (hq : q < p.X.n) (hK : ν.K = p.A.n) (hl : Bnd p.D k) (hk : k ≤ 100000) :
    Calls Tryz.prog 94 #[.pointer (some ⟨ν.r, 0, none⟩), .int .i64 (q : Int)] w (RoomPost ν w col (p.fetch (q : Int)) H T) := by
  have c1 := x.c1
  have HF := Lib.hid (ArD.find_any x.arena (q : Int))
  have HX := Lib.hid x
  unfold RoomPost
  rcases ArM.find_cases p.A (q : Int) with ⟨e, hno⟩ | ⟨f, hf, hs, hp, e⟩
  · have HR := Lib.hid (room_any x i hq hno hK hl (by omega))
    have E0 : p.fetch (q : Int) = if (p.room (q : Int)).1.2 ≠ 0 then ((-1, (p.room (q : Int)).1.2), (p.room (q : Int)).2) else (p.room (q : Int)).2.load (q : Int) (p.room (q : Int)).1.1.toNat := by
      unfold Pl.fetch
      rw [e, if_neg (by decide)]
    rw [e] at HF
    have hb2 := hl.room (q : Int)
    unfold RoomPost at HR
    have bad : ∀ (z : Int) (p' : Pl), z ≠ 0 → p.room (q : Int) = ((-1, z), p') → Calls Tryz.prog 94 #[.pointer (some ⟨ν.r, 0, none⟩), .int .i64 (q : Int)] w (Post ν w col (.tuple #[.int .i64 (p.fetch (q : Int)).1.1, .int .i64 (p.fetch (q : Int)).1.2]) (p.fetch (q : Int)).2.D (p.fetch (q : Int)).2.A (p.fetch (q : Int)).2.L H T) := fun z p' hz hr => by
      rw [hr] at E0 HR
      have E : Hid (p.fetch (q : Int) = ((-1, z), p')) := E0.trans (if_pos hz)
      rw [E.out]
      have hzb : (z != 0) = true := by simpa using hz
      clear x i hq hK hl hk e hno hb2 E0 hr E
      go_enter Tryz.func94, Tryz.ntmps94
      go_wp2_with (first
        | (go_at_call 102; (with_reducible refine HF.out.mono ?_); rintro e w1 ⟨rfl, rfl⟩)
        | (go_at_call 90; (with_reducible refine HR.out.mono ?_); rintro e w1 ⟨rfl, c1', hw1, hm1⟩; have HW1 := Lib.hid hw1; have HM1 := Lib.hid hm1; clear hw1 hm1))
      go_ret2
      exact ⟨rfl, c1', HW1.out, HM1.out⟩
    rcases RfR.room_spec i hq hno with ⟨f, p', hr, hg, i', hcur, hf, hF, hB, _⟩ | ⟨hr, _⟩ | ⟨p', hr, _⟩
    · rw [hr] at E0 HR hb2
      have E1 : p.fetch (q : Int) = p'.load (q : Int) f := by
        rw [E0, if_neg (fun z => z rfl)]
        dsimp only
        rw [Int.toNat_natCast]
      rw [load_eq] at E1
      have CL : Hid (∀ wx cx, MAt wx cx ν p'.D p'.A p'.L H T → Calls Tryz.prog 151 #[.pointer (some ⟨ν.r, 0, none⟩), .int .i64 (f : Int), .int .i64 (q : Int)] wx (Post ν wx cx (.int .i64 (loadC p' q)) (Dev.readS p'.D q) (loadA p' q f) p'.L H T)) := fun wx cx y => load_any y i' hf (by rw [hg.X]; exact hq) hF hb2 (by omega)
      by_cases hc : loadC p' q = 0
      · rw [if_pos hc] at E1
        have E := Lib.hid E1
        rw [hc] at CL
        rw [E.out]
        clear x i hq hK hl hk e hno hb2 E0 hr E E1 bad hc hg i' hcur hf hF hB
        go_enter Tryz.func94, Tryz.ntmps94
        go_wp2_with (first
          | (go_at_call 102; (with_reducible refine HF.out.mono ?_); rintro e w1 ⟨rfl, rfl⟩)
          | (go_at_call 90; (with_reducible refine HR.out.mono ?_); rintro e w1 ⟨rfl, c1', hw1, hm1⟩; have HW1 := Lib.hid hw1; have HL := Lib.hid (CL.out w1 c1' hm1); clear hw1 hm1 c1)
          | (go_at_call 151; (with_reducible refine HL.out.mono ?_); rintro e w2 ⟨rfl, c2, hw2, hm2⟩; have HW2 := Lib.hid (HW1.out.trans hw2); have HM2 := Lib.hid hm2; clear hw2 hm2))
        go_ret2
        exact ⟨rfl, c2, HW2.out, HM2.out⟩
      · rw [if_neg hc] at E1
        have E := Lib.hid E1
        rw [E.out]
        have hcb : (loadC p' q != 0) = true := by simpa using hc
        clear x i hq hK hl hk e hno hb2 E0 hr E E1 bad hg i' hcur hf hF hB
        generalize loadC p' q = z at *
        go_enter Tryz.func94, Tryz.ntmps94
        go_wp2_with (first
          | (go_at_call 102; (with_reducible refine HF.out.mono ?_); rintro e w1 ⟨rfl, rfl⟩)
          | (go_at_call 90; (with_reducible refine HR.out.mono ?_); rintro e w1 ⟨rfl, c1', hw1, hm1⟩; have HW1 := Lib.hid hw1; have HL := Lib.hid (CL.out w1 c1' hm1); clear hw1 hm1 c1)
          | (go_at_call 151; (with_reducible refine HL.out.mono ?_); rintro e w2 ⟨rfl, c2, hw2, hm2⟩; have HW2 := Lib.hid (HW1.out.trans hw2); have HD := Lib.hid (drop_any hm2 (f : Int)); clear hw2 hm2)
          | (go_at_call 107; (with_reducible refine HD.out.mono ?_); rintro e w3 ⟨rfl, c3, hw3, hm3⟩; have HW3 := Lib.hid (HW2.out.trans hw3); have HM3 := Lib.hid hm3; clear hw3 hm3))
        go_ret2
        exact ⟨rfl, c3, HW3.out, HM3.out⟩
    · exact bad 8 p (by decide) hr
    · exact bad 9 p' (by decide) hr
  · have E : Hid (p.fetch (q : Int) = (((f : Int), 0), p.front (f : Int))) := by unfold Hid Pl.fetch; rw [e, if_pos (by omega)]
    obtain ⟨t1, t2, t3⟩ := touched i hf hs hK
    have HT := Lib.hid (touch_any x (f : Int))
    rw [t1] at HT
    rw [E.out]
    dsimp only
    rw [t2, t3]
    have hfb : ((f : Int) != -1) = true := by simp
    rw [e] at HF
    clear x i hq hK hl hk e hf hs hp t1 t2 t3 E
    go_enter Tryz.func94, Tryz.ntmps94
    go_wp2_with (first
      | (go_at_call 102; (with_reducible refine HF.out.mono ?_); rintro e w1 ⟨rfl, rfl⟩)
      | (go_at_call 96; (with_reducible refine HT.out.mono ?_); rintro e w3 ⟨rfl, c3, hw3, hm3⟩; have HW3 := Lib.hid hw3; have HM3 := Lib.hid hm3; clear hw3 hm3))
    go_ret2
    exact ⟨rfl, c3, HW3.out, HM3.out⟩
end
end Go.Proofs.YtbnkpnllgoghnaaGreat.RgE

namespace Go.Proofs.YtbnkpnllgoghnaaGreat.RgH
open Go.Proofs.YtbnkpnllgoghnaaGreat.MdM (Md)
open Go.Proofs.YtbnkpnllgoghnaaGreat.HdM (Hs)
/-- The handles of a model's state. -/
def hs (X : Md) : Hs := ⟨X.N, X.H⟩
section
variable {X : Md} {c h p : Int} {k j q : Nat} {t : Bool} {b : List Int}
theorem hs_pins (P : Int) : (hs X).pins P = X.pins P := rfl
theorem hs_page : (hs X).page c h = X.held c h := by
  unfold Hs.page Hs.len Md.held hs
  by_cases hc : 0 ≤ c ∧ c < (X.N : Int)
  · dsimp only
    rw [if_pos hc]
    by_cases hh : 0 ≤ h ∧ h < 6
    · rw [if_pos (by omega), if_pos ⟨hc, hh⟩]
    · rw [if_neg (by omega), if_neg fun x => hh x.2]
  · dsimp only
    rw [if_neg hc, if_neg (by omega), if_neg fun x => hc x.1]
theorem hs_room (hk : k < X.N) : (hs X).room (k : Int) = !decide (X.free k = -1) := HdM.room_in (a := hs X) hk
theorem hs_give (hk : k < X.N) (hp : 0 ≤ p) : (hs X).give (k : Int) p = X.free k := HdM.give_in (a := hs X) hk (by omega)
theorem hs_gave (hk : k < X.N) (hp : 0 ≤ p) (hf : X.free k = (j : Int)) : (hs X).gave (k : Int) p = hs (X.putH k j p) := HdM.gave_at (by rw [hs_give hk hp]; exact hf)
theorem hs_back (h0 : 0 ≤ X.held c h) : (hs X).back c h = hs (X.putH c.toNat h.toNat (-1)) := by
  unfold Hs.back
  rw [hs_page, if_neg (by omega)]
  rfl
end
end Go.Proofs.YtbnkpnllgoghnaaGreat.RgH
