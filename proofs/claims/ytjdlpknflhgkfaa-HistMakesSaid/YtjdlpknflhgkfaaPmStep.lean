/-
  Package model: create, fetch, unpin, remove.
-/
import Derived.Test.YtjdlpknflhgkfaaPmPins
import Derived.Test.YtjdlpknflhgkfaaGs
import Derived.Lib.SliceRun
namespace Go.Proofs.Ytjdlpknflhgkfaa.PmT
open Go.ChangeShapes Go.WideShapes Go.ChangeAt Go.RowKit
open Go.Proofs.Ytjdlpknflhgkfaa.Mem Go.Proofs.Ytjdlpknflhgkfaa.Blk Go.Proofs.Ytjdlpknflhgkfaa.Cells Go.Proofs.Ytjdlpknflhgkfaa.Orow Go.Proofs.Ytjdlpknflhgkfaa.GrC Go.Proofs.Ytjdlpknflhgkfaa.MdM Go.Proofs.Ytjdlpknflhgkfaa.MdC Go.Proofs.Ytjdlpknflhgkfaa.MdR Go.Proofs.Ytjdlpknflhgkfaa.MdD Go.Proofs.Ytjdlpknflhgkfaa.PmC Go.Proofs.Ytjdlpknflhgkfaa.PmI Go.Proofs.Ytjdlpknflhgkfaa.PmM Go.Proofs.Ytjdlpknflhgkfaa.PmP Go.Proofs.Ytjdlpknflhgkfaa.Stages Go.Proofs.Ytjdlpknflhgkfaa.Trees
open Go.Proofs.Ytjdlpknflhgkfaa.HdM (lst hnd cnt sum lst_eq hnd_at hnd_none hnd_cases cnt_yes cnt_no cnt_le sum_le)

/-- The data of an answer may be written. -/
def Fz (w : World) (A : Option Addr) (n : Nat) : Prop := 0 < n → ∀ x, A = some x → ∀ j, w.frozen? ⟨x.block, j, none⟩ = false
theorem fz_nil (w : World) : Fz w none 0 := fun h => absurd h (Nat.lt_irrefl 0)
theorem sl_lt {w : World} {B n : Nat} {k : IntKind} {A : Option Addr} {zs : List Int} (h : Sl w B k A n zs) (hn : 0 < n) {x : Addr} (e : A = some x) : x.block < B := by
  obtain ⟨b, off, e2, hb, _⟩ := h.2 hn
  rw [e2] at e
  injection e with e
  rw [← e]
  exact hb
theorem Fz.kept {w w' : World} {F : Nat → Prop} {A : Option Addr} {n : Nat} (h : Fz w A n) (hk : Kept F w w') (hA : 0 < n → ∀ x, A = some x → x.block < w.heap.size ∧ ¬ F x.block) : Fz w' A n := fun hn x e j => by
  obtain ⟨h1, h2⟩ := hA hn x e
  exact (hk.frozen (p := ⟨x.block, j, none⟩) h1 h2).trans (h hn x e j)
/-- The value v is the answer r; its data lie in blocks from base on, and may be written. -/
def RePV (w : World) (base : Nat) (v : Value) (r : Re) : Prop := ∃ A n cap, v = .agg #[.int .i64 r.c, .int .i64 r.p, .int .i64 r.h, .slice A n cap] ∧ Sl w w.heap.size .u8 A n r.d ∧ (0 < n → ∀ x, A = some x → base ≤ x.block) ∧ Fz w A n
theorem repv_none (w : World) (base : Nat) (c p h : Int) : RePV w base (.agg #[.int .i64 c, .int .i64 p, .int .i64 h, .slice none 0 0]) ⟨c, p, h, []⟩ :=
  ⟨none, 0, 0, rfl, Sl.nil _ _ _ _, fun h => absurd h (by omega), fz_nil w⟩
/-- What a call answers, and what it makes of the state. -/
def PPost (G : Nat → Prop) (v : Value) (w : World) (x : Re × Md) (e : Ending) (w' : World) : Prop := (∃ rv, e = .returned rv ∧ RePV w' w.heap.size rv x.1) ∧ PAt w' G v x.2 ∧ Kept G w w'
section
variable {w w0 w1 : World} {G F X : Nat → Prop} {v : Value} {gT cT gB cB gH cH r : Nat} {qb cb q cp : Nat → Nat} {a a' : Md} {k : Nat}
theorem fin_p {x y z d : Value} (hlt : ∀ k, G k → k < w.heap.size) (hb : Blk w1 r 27 [x, y, z, d]) (hr : w.heap.size ≤ r) (hs : PAt w1 G v a') (hk : Kept G w w1) (c p h : Int) :
    Blk (put4 w1 r (.int .i64 c) (.int .i64 p) (.int .i64 h) (.slice none 0 0)) r 27 [.int .i64 c, .int .i64 p, .int .i64 h, .slice none 0 0] ∧
    PPost G v w (⟨c, p, h, []⟩, a') (.returned (.agg #[.int .i64 c, .int .i64 p, .int .i64 h, .slice none 0 0])) (put4 w1 r (.int .i64 c) (.int .i64 p) (.int .i64 h) (.slice none 0 0)) := by
  refine ⟨put4_blk hb, ⟨_, rfl, repv_none _ _ _ _ _⟩, hs.kept (put4_kept w1 r _ _ _ _) fun k hG e => ?_, hk.then (put4_kept w1 r _ _ _ _) fun k hk e => ?_⟩
  · have := hlt k hG
    have e : k = r := e
    omega
  · have e : k = r := e
    omega
theorem fin_d {x y z d : Value} {A : Option Addr} {n cap : Nat} {zs : List Int} (hlt : ∀ k, G k → k < w.heap.size) (hb : Blk w1 r 27 [x, y, z, d]) (hr : w.heap.size ≤ r) (hs : PAt w1 G v a') (hk : Kept G w w1) (hz : Sl w1 w1.heap.size .u8 A n zs) (hA : 0 < n → ∀ x, A = some x → w.heap.size ≤ x.block ∧ x.block ≠ r) (hf : Fz w1 A n) :
    Blk (put4 w1 r (.int .i64 0) (.int .i64 0) (.int .i64 0) (.slice A n cap)) r 27 [.int .i64 0, .int .i64 0, .int .i64 0, .slice A n cap] ∧
    PPost G v w (⟨0, 0, 0, zs⟩, a') (.returned (.agg #[.int .i64 0, .int .i64 0, .int .i64 0, .slice A n cap])) (put4 w1 r (.int .i64 0) (.int .i64 0) (.int .i64 0) (.slice A n cap)) := by
  refine ⟨put4_blk hb, ⟨_, rfl, A, n, cap, rfl, ⟨hz.1, fun hn => ?_⟩, fun hn x e => (hA hn x e).1, hf.kept (put4_kept w1 r _ _ _ _) fun hn x e => ⟨sl_lt hz hn e, (hA hn x e).2⟩⟩, hs.kept (put4_kept w1 r _ _ _ _) fun k hG e => ?_, hk.then (put4_kept w1 r _ _ _ _) fun k hk e => ?_⟩
  · obtain ⟨b, off, e, hb, hc⟩ := hz.2 hn
    exact ⟨b, off, e, Nat.lt_of_lt_of_le hb (put4_kept w1 r _ _ _ _).size, fun j hj => (put4_kept w1 r _ _ _ _).cellN (hc j hj) (hA hn _ e).2⟩
  · have := hlt k hG
    have e : k = r := e
    omega
  · have e : k = r := e
    omega
/-- A state's box and a result's, laid at the head of a call. -/
structure Fr (w w0 : World) (s : Nat) (gT cT gB cB gH cH : Nat) (a : Md) : Prop where
  sb : Blk w0 s 39 [.slice (some ⟨gT, 0, none⟩) a.n cT, .slice (some ⟨gB, 0, none⟩) a.n cB, .slice (some ⟨gH, 0, none⟩) a.N cH]
  rb : Blk w0 (s + 1) 27 [.int .i64 0, .int .i64 0, .int .i64 0, .slice none 0 0]
  gr : Grow w w0
  sz : s = w.heap.size
theorem fr_new (w : World) (gT cT gB cB gH cH : Nat) (a : Md) : Fr w ((w.alloc (.cells #[.slice (some ⟨gT, 0, none⟩) a.n cT, .slice (some ⟨gB, 0, none⟩) a.n cB, .slice (some ⟨gH, 0, none⟩) a.N cH] 39)).alloc (.cells #[.int .i64 0, .int .i64 0, .int .i64 0, .slice none 0 0] 27)) w.heap.size gT cT gB cB gH cH a := by
  have b1 := Blk.new w 39 [.slice (some ⟨gT, 0, none⟩) a.n cT, .slice (some ⟨gB, 0, none⟩) a.n cB, .slice (some ⟨gH, 0, none⟩) a.N cH]
  have g1 : Grow w (w.alloc (.cells #[.slice (some ⟨gT, 0, none⟩) a.n cT, .slice (some ⟨gB, 0, none⟩) a.n cB, .slice (some ⟨gH, 0, none⟩) a.N cH] 39)) := (Kept.refl _ _).alloc _
  have z1 : (w.alloc (.cells #[.slice (some ⟨gT, 0, none⟩) a.n cT, .slice (some ⟨gB, 0, none⟩) a.n cB, .slice (some ⟨gH, 0, none⟩) a.N cH] 39)).heap.size = w.heap.size + 1 := by simp
  generalize w.alloc (.cells #[.slice (some ⟨gT, 0, none⟩) a.n cT, .slice (some ⟨gB, 0, none⟩) a.n cB, .slice (some ⟨gH, 0, none⟩) a.N cH] 39) = u1 at *
  have b2 := Blk.new u1 27 [.int .i64 0, .int .i64 0, .int .i64 0, .slice none 0 0]
  have g2 : Grow u1 (u1.alloc (.cells #[.int .i64 0, .int .i64 0, .int .i64 0, .slice none 0 0] 27)) := (Kept.refl _ _).alloc _
  rw [z1] at b2
  exact ⟨b1.grow g2, b2, g1.trans g2, rfl⟩
section
variable {s : Nat} (H : Fr w w0 s gT cT gB cB gH cH a)
include H
theorem Fr.s0 : w0.cell? ⟨s, 0, none⟩ = some (.slice (some ⟨gT, 0, none⟩) a.n cT) := H.sb.cell 0
theorem Fr.s1 : w0.cell? ⟨s, 1, none⟩ = some (.slice (some ⟨gB, 0, none⟩) a.n cB) := H.sb.cell 1
theorem Fr.s2 : w0.cell? ⟨s, 2, none⟩ = some (.slice (some ⟨gH, 0, none⟩) a.N cH) := H.sb.cell 2
theorem Fr.resK (hlt : ∀ k, G k → k < w.heap.size) (hk : Kept G w0 w1) : w1.cell? ⟨s + 1, 0, none⟩ = some (.int .i64 0) ∧ w1.cell? ⟨s + 1, 1, none⟩ = some (.int .i64 0) ∧ w1.cell? ⟨s + 1, 2, none⟩ = some (.int .i64 0) ∧ w1.cell? ⟨s + 1, 3, none⟩ = some (.slice none 0 0) ∧ ∀ j, w1.frozen? ⟨s + 1, j, none⟩ = false := by
  have hz := H.sz
  have hb := H.rb.kept hk fun x => by have := hlt _ x; omega
  exact ⟨hb.cell 0, hb.cell 1, hb.cell 2, hb.cell 3, hb.frozen⟩
theorem Fr.sbK (hlt : ∀ k, G k → k < w.heap.size) (hk : Kept G w0 w1) : Blk w1 s 39 [.slice (some ⟨gT, 0, none⟩) a.n cT, .slice (some ⟨gB, 0, none⟩) a.n cB, .slice (some ⟨gH, 0, none⟩) a.N cH] := by
  have hz := H.sz
  exact H.sb.kept hk fun x => by have := hlt _ x; omega
theorem Fr.fin (hlt : ∀ k, G k → k < w.heap.size) (hk : Kept G w0 w1) (hs : PAt w1 G v a') (c p h : Int) :
    Blk (put4 w1 (s + 1) (.int .i64 c) (.int .i64 p) (.int .i64 h) (.slice none 0 0)) (s + 1) 27 [.int .i64 c, .int .i64 p, .int .i64 h, .slice none 0 0] ∧
    PPost G v w (⟨c, p, h, []⟩, a') (.returned (.agg #[.int .i64 c, .int .i64 p, .int .i64 h, .slice none 0 0])) (put4 w1 (s + 1) (.int .i64 c) (.int .i64 p) (.int .i64 h) (.slice none 0 0)) := by
  have hz := H.sz
  exact fin_p hlt (H.rb.kept hk fun x => by have := hlt _ x; omega) (by omega) hs (H.gr.kept.trans hk) c p h
end
/-- What is there of the state in a frame. -/
structure St0 (w : World) (G : Nat → Prop) (gT cT gB cB gH cH : Nat) (qb cb q cp : Nat → Nat) (a : Md) : Prop where
  good : MdM.Good a
  pm : PM w G gT cT gB cB gH cH qb cb q cp a
  lt : ∀ k, G k → k < w.heap.size
theorem St0.at_ (h : St0 w G gT cT gB cB gH cH qb cb q cp a) : PAt w G (sval gT cT gB cB gH cH a) a := ⟨h.good, gT, cT, gB, cB, gH, cH, qb, cb, q, cp, rfl, h.pm⟩
theorem free_hnd (a : Md) (k : Nat) : hnd (a.H k) 6 = a.free k := rfl
theorem least_gap {a : Md} (h : a.gap < a.n) : least a.n a.T = (a.gap : Int) := if_neg (by have : lst (fun i => if a.T i then (0 : Int) else -1) a.n < a.n := h; omega)
theorem least_full {a : Md} (h : a.gap = a.n) : least a.n a.T = -1 := if_pos h
theorem free_good (_g : MdM.Good a) (_hk : k < a.N) : a.free k = -1 ∨ ∃ j : Nat, j < 6 ∧ a.free k = (j : Int) ∧ a.H k j = -1 := by
  rcases hnd_cases (a.H k) 6 with ⟨e, _⟩ | ⟨j, hj, e, h⟩
  · exact .inl e
  · exact .inr ⟨j, hj, e, h.1⟩
set_option maxHeartbeats 4000000 in
theorem create_any (h : St0 w G gT cT gB cB gH cH qb cb q cp a) (hk : k < a.N) : Calls Try.prog 67 #[sval gT cT gB cB gH cH a, .slice (some ⟨q k, 0, none⟩) 6 (cp k)] w (PPost G (sval gT cT gB cB gH cH a) w (a.new k)) := by
  have HS := Lib.hid h
  have HK := Lib.hid hk
  have HF := Lib.hid (fr_new w gT cT gB cB gH cH a)
  obtain ⟨P, hP⟩ : ∃ P, P = PPost G (sval gT cT gB cB gH cH a) w (a.new k) := ⟨_, rfl⟩
  have HP := Lib.hid hP
  rw [← hP]
  clear h hk hP
  go_enter Try.func67, Try.ntmps67
  go_upto_region 1 with (fail)
  generalize (w.alloc (.cells #[.slice (some ⟨gT, 0, none⟩) a.n cT, .slice (some ⟨gB, 0, none⟩) a.n cB, .slice (some ⟨gH, 0, none⟩) a.N cH] 39)).alloc (.cells #[.int .i64 0, .int .i64 0, .int .i64 0, .slice none 0 0] 27) = w0 at *
  generalize w.heap.size = s at HF ⊢
  have HPM := Lib.hid (HS.out.pm.kept HF.out.gr fun _ _ x => x)
  have q0 := up_cell (F := fun _ => False) (w := w0.drew) (p := ⟨s, 0, none⟩) HF.out.s0 id
  refine wp_region_stages Grow (kept_refl _) (kept_trans _) [([0, 2, 3], 1), ([], 4)] [5, 6] (by kernel_rfl) (by kernel_rfl) ?_
  simp only [selSt, sel, List.map_cons, List.map_nil, List.getD_cons_succ, List.getD_cons_zero]
  refine st_cons fun K1 hK1 => ?_
  repeat (go_big_quiet_step (fail))
  refine wpQuiet_nil ?_
  clear q0
  have HI := Lib.hid (index_any ((HPM.out.rb k HK.out).kept (Kept.drew' w0 (F := fun _ => False)) id))
  have HL := Lib.hid (least_any (HPM.out.tb.kept (Kept.drew' w0 (F := fun _ => False)) id) (by have := HS.out.good.n; omega))
  rw [free_hnd] at HI
  go_wp2_with (go_at_call 91; (with_reducible refine HI.out.mono ?_); rintro e wi ⟨rfl, rfl⟩)
  refine norm_up (hK1 _ _ (Kept.refl _ _) ?_)
  clear hK1 K1
  refine st_cons fun K2 hK2 => ?_
  refine wpQuiet_nil ?_
  go_wp2_with (go_at_call 92; (with_reducible refine HL.out.mono ?_); rintro e wi ⟨rfl, rfl⟩)
  refine norm_up (hK2 _ _ (Kept.refl _ _) ?_)
  clear hK2 K2
  refine st_nil fun K3 hK3 => ?_
  repeat (go_big_quiet_step (fail))
  refine wpQuiet_nil (hK3 _ ?_)
  clear hK3 K3 HI HL
  have HGD : Hid (Grow w0 w0.drew) := (Kept.refl _ _).drew
  have HPM1 := Lib.hid (HPM.out.kept HGD.out fun _ _ x => x)
  generalize w0.drew = w1 at HGD HPM1 ⊢
  rcases free_good HS.out.good HK.out with hf | ⟨j, hj, hf, hm⟩
  · have e1 : a.new k = (err 4, a) := if_pos hf
    rw [hf]
    rw [e1] at HP
    clear hf e1
    go_wp2_with (go_at_call 42; (with_reducible refine (code_any _ 4).mono ?_); rintro e wc ⟨rfl, hgc⟩; have HGC := Lib.hid (HGD.out.trans hgc); clear hgc; obtain ⟨t0, t1, t2, t3, tf⟩ := HF.out.resK (G := G) HS.out.lt (Grow.kept HGC.out))
    rw [HP.out]
    have hfin := HF.out.fin HS.out.lt (Grow.kept HGC.out) (HS.out.at_.grow (HF.out.gr.trans HGC.out)) 4 0 0
    exact ret_res rfl rfl hfin.1 rfl hfin.2
  · have hj1 : ((j : Int) == -1) = false := by simp <;> omega
    have hnf : a.free k ≠ -1 := by omega
    by_cases hga : a.gap = a.n
    · have e1 : a.new k = (err 3, a) := by unfold Md.new; rw [if_neg hnf, if_pos hga]
      rw [hf, least_full hga]
      rw [e1] at HP
      clear hf e1 hnf hga hm
      go_wp2_with (go_at_call 42; (with_reducible refine (code_any _ 3).mono ?_); rintro e wc ⟨rfl, hgc⟩; have HGC := Lib.hid (HGD.out.trans hgc); clear hgc; obtain ⟨t0, t1, t2, t3, tf⟩ := HF.out.resK (G := G) HS.out.lt (Grow.kept HGC.out))
      rw [HP.out]
      have hfin := HF.out.fin HS.out.lt (Grow.kept HGC.out) (HS.out.at_.grow (HF.out.gr.trans HGC.out)) 3 0 0
      exact ret_res rfl rfl hfin.1 rfl hfin.2
    · have hgl : a.gap < a.n := Nat.lt_of_le_of_ne (gap_le a) hga
      have HGT := Lib.hid (gap_free (a := a) rfl hgl)
      have HN0 := Lib.hid (HS.out.good.zer _ hgl HGT.out)
      rw [hf, least_gap hgl]
      have e1 : a.new k = (⟨0, a.gap, a.free k, []⟩, (a.putT a.gap true).putH k (a.free k).toNat a.gap) := by unfold Md.new; rw [if_neg hnf, if_neg hga]
      rw [hf, Int.toNat_natCast] at e1
      rw [e1] at HP
      have HGN := Lib.hid ((HS.out.good.putT a.gap true (.inl rfl)).putH k j (p := (a.gap : Int)) (.inr ⟨a.gap, rfl, hgl, upd_same _ _ _⟩))
      have HPT : Hid (a.putT a.gap true = ⟨a.n, a.N, upd a.T a.gap true, a.B, a.H⟩) := by
        unfold Md.putT
        congr 1
        funext i
        unfold upd
        split
        · rename_i e; rw [e, HN0.out]
        · rfl
      rw [HPT.out] at HP HGN
      generalize a.gap = g at *
      have hglz : (g : Int) < (a.n : Int) := by omega
      have hgb : ((g : Int) == -1) = false := by simp <;> omega
      have hjz : (j : Int) < 6 := by omega
      have z0 := HF.out.s0
      have z0 := HGD.out.cellN z0 id
      have r1 := HPM1.out.tb.cell (i := g) (by omega)
      have f1 := HPM1.out.tb.frozen g
      unfold tcell at r1
      rw [HGT.out] at r1
      have HS2 := Lib.hid (HPM1.out.flag g true)
      have HK2 : Hid (Kept G w1 (w1.setCell ⟨gT, g, none⟩ (.bool true))) := (kept_set w1 gT g (.bool true)).mono fun x _ e => by rw [e]; exact HPM1.out.inG.1
      clear hf e1 hnf hga hgl HN0 HGT HPT HPM
      go_upto_region 7 with (fail)
      clear r1 f1 z0
      generalize w1.setCell ⟨gT, g, none⟩ (.bool true) = w2 at HS2 HK2 ⊢
      have r2 := hcell_get (HS2.out.rb k HK.out) hj
      have f2 := (HS2.out.rb k HK.out).frozen j
      dsimp only at r2
      rw [hm] at r2
      have HS3 := Lib.hid (HS2.out.putH HK.out j (g : Int))
      have HK3 : Hid (Kept G w1 (w2.setCell ⟨q k, j, none⟩ (.int .i64 (g : Int)))) := HK2.out.trans ((kept_set w2 (q k) j _).mono fun x _ e => by rw [e]; exact HS2.out.qG k HK.out)
      clear hm hj
      go_upto_region 8 with (fail)
      clear r2 f2
      generalize w2.setCell ⟨q k, j, none⟩ (.int .i64 (g : Int)) = w3 at HS3 HK3 ⊢
      have HK4 := Lib.hid (HGD.out.kept.trans HK3.out)
      obtain ⟨t0, t1, t2, t3, tf⟩ := HF.out.resK (G := G) HS.out.lt HK4.out
      go_wp2
      rw [HP.out]
      have hfin := HF.out.fin HS.out.lt HK4.out ⟨HGN.out, gT, cT, gB, cB, gH, cH, qb, cb, q, cp, rfl, HS3.out⟩ 0 (g : Int) (j : Int)
      exact ret_res rfl rfl hfin.1 rfl hfin.2
end
end Go.Proofs.Ytjdlpknflhgkfaa.PmT
