import Derived.Test.YtbnkpnllgoghnaaGreatPm
set_option linter.unusedVariables false
namespace Go.Proofs.YtbnkpnllgoghnaaGreat
open Go.Lib (hid)
namespace ArRefN
open Go.ChangeShapes Go.WideShapes Go.ChangeAt Go.RowKit
open Mem Blk Cells Orow TabM ArM ArC ArB ArA ArRefC ArRefT ArRefA Txt Stages Trees
open ListM (ints ints_len ints_get)
theorem infoSt : (Tryz.prog.info? 9).map (fun i => (i.zero,i.size,i.bytes)) = some (some (.string ⟨#[]⟩),1,16) := by kernel_rfl
section
variable {w w' : World} {G H F P : Nat → Prop} {m c n : Nat} {vL vB : Value} {A : Option Addr} {S : Nat → List Int} {a : Ar}
theorem os_kept {v : Value} {t : TypeId} {s : Nat} {f : Nat → Value} (h : OS w P v t s n f) (hk : Kept F w w') (hF : ∀ k,v.ownBlock = some k → ¬ F k) : OS w' P v t s n f := by
 rcases h with h | ⟨g,c,e,ho,hg⟩
 ·exact .inl h
 ·exact .inr ⟨g,c,e,ho.kept hk (hF g (by rw [e];rfl)),hg⟩
def Rows2 (vL vB : Value) (k : Nat) : Prop := vL.ownBlock = some k ∨ vB.ownBlock = some k
theorem app_frame {F : Nat → Fr} {vb : Nat} (h : OS w P vL 36 5 n (fcell F)) (hn : n ≤ 1000) (hb : Blk w vb 36 [.int .i64 0,.int .i64 0,.int .i64 0,.int .i64 0,.bool false]) :
  ∃ g cap w',(∀ ty,(Builtin.append_ #[31,31] ty #[vL,.slice (some ⟨vb,0,none⟩) 1 1]).run Tryz.prog w = .ok (.slice (some ⟨g,0,none⟩) (n + 1) cap) w') ∧ FR w' g cap (n + 1) (upd F n ⟨0,0,0,false⟩) ∧ Kept (fun k => vL.ownBlock = some k) w w' ∧ (vL.ownBlock = some g ∨ g = w.heap.size) := by
 obtain ⟨i0,hi,hz0,hz1,hz2⟩ := info_parts infoFr
 have key := fun ty => append_or (P := Tryz.prog) 31 ty i0 _ 40 Tryz.underlying31 hi hz0 hz1 hz2 rfl (by omega) h (by omega) (by omega) vb 1 (u := fcell fun _ => ⟨0,0,0,false⟩) (fun j hj => by
  refine (Blk.cell hb j).trans ?_
  have : j = 0 ∨ j = 1 ∨ j = 2 ∨ j = 3 ∨ j = 4 := by omega
  rcases this with rfl | rfl | rfl | rfl | rfl <;> rfl) (fun j _ => fcell_one _ j)
 obtain ⟨g,cap,w',h1,h2,h3,h4⟩ := key 0
 refine ⟨g,cap,w',fun ty => ?_,OR.congr h2 fun i hi => joined_frame F n i hi,h3,h4⟩
 rw [← h1]
 rfl
theorem app_str {vb : Nat} (h : OS w P vB 9 1 n (scell S)) (hn : n ≤ 1000) (hb : Blk w vb 9 [.string ⟨#[]⟩]) :
  ∃ g cap w',(∀ ty,(Builtin.append_ #[47,47] ty #[vB,.slice (some ⟨vb,0,none⟩) 1 1]).run Tryz.prog w = .ok (.slice (some ⟨g,0,none⟩) (n + 1) cap) w') ∧ OR w' g 9 1 cap (n + 1) (scell (upd S n [])) ∧ Kept (fun k => vB.ownBlock = some k) w w' ∧ (vB.ownBlock = some g ∨ g = w.heap.size) := by
 obtain ⟨i0,hi,hz0,hz1,hz2⟩ := info_parts infoSt
 have key := fun ty => append_or (P := Tryz.prog) 47 ty i0 _ 16 Tryz.underlying47 hi hz0 hz1 hz2 rfl (by omega) h (by omega) (by omega) vb 1 (u := fun _ => .string ⟨#[]⟩) (fun j hj => by
  refine (Blk.cell hb j).trans ?_
  obtain rfl : j = 0 := by omega
  rfl) (fun j _ => rfl)
 obtain ⟨g,cap,w',h1,h2,h3,h4⟩ := key 0
 refine ⟨g,cap,w',fun ty => ?_,OR.congr h2 fun i hi => ?_,h3,h4⟩
 ·rw [← h1]
  rfl
 ·unfold joined scell
  by_cases e : i < n * 1
  ·rw [if_pos e,upd_other _ _ (by omega)]
  ·rw [if_neg e,show i = n by omega,upd_same]
   rfl
theorem RMem.rows {F' : Nat → Fr} {S' : Nat → List Int} {y y' z z' : World} {gL cL gB cB : Nat} (h : RMem w G m vL vB A c S a) (hnew : ∀ k,w.heap.size ≤ k → G k)
  (hy : Grow w y) (hL : FR y' gL cL (a.n + 1) F') (kL : Kept (fun k => vL.ownBlock = some k) y y') (oL : vL.ownBlock = some gL ∨ gL = y.heap.size)
  (hz : Grow y' z) (hB : OR z' gB 9 1 cB (a.n + 1) (scell S')) (kB : Kept (fun k => vB.ownBlock = some k) z z') (oB : vB.ownBlock = some gB ∨ gB = z.heap.size)
  (hs : ∀ x,x < a.n + 1 → (F' x).st = 1 → S' x = a.B x) :
  RMem ((z'.setCell ⟨m,0,none⟩ (.slice (some ⟨gL,0,none⟩) (a.n + 1) cL)).setCell ⟨m,1,none⟩ (.slice (some ⟨gB,0,none⟩) (a.n + 1) cB)) G m (.slice (some ⟨gL,0,none⟩) (a.n + 1) cL) (.slice (some ⟨gB,0,none⟩) (a.n + 1) cB) A c S' ⟨a.n + 1,F',a.B,a.Q⟩ ∧ Kept (fun k => Rows2 vL vB k ∨ k = m) w ((z'.setCell ⟨m,0,none⟩ (.slice (some ⟨gL,0,none⟩) (a.n + 1) cL)).setCell ⟨m,1,none⟩ (.slice (some ⟨gB,0,none⟩) (a.n + 1) cB)) := by
 obtain ⟨_,fL⟩ := h.fr.own
 obtain ⟨_,fB⟩ := h.bo.own
 have hm := h.hd.lt
 have s1 := hy.size
 have s2 := kL.size
 have s3 := hz.size
 have s4 := kB.size
 have lL := hL.lt
 have lB := hB.lt
 have hmL : ∀ k,vL.ownBlock = some k → k ≠ m := fun k e => (fL k e).1.2.1
 have hmB : ∀ k,vB.ownBlock = some k → k ≠ m := fun k e => (fB k e).1.2
 have kz : Kept (fun k => Rows2 vL vB k) w z' := (((hy.kept.trans (kL.mono fun k _ e => .inl e)).trans hz.kept).trans (kB.mono fun k _ e => .inr e))
 have k5 : Kept (· = m) z' ((z'.setCell ⟨m,0,none⟩ (.slice (some ⟨gL,0,none⟩) (a.n + 1) cL)).setCell ⟨m,1,none⟩ (.slice (some ⟨gB,0,none⟩) (a.n + 1) cB)) := (kept_set _ _ _ _).trans (kept_set _ _ _ _)
 have hgL : G gL ∧ gL ≠ m ∧ gL ≠ gB := by
  rcases oL with e | e
  ·obtain ⟨⟨g1,g2,g3⟩,g4⟩ := fL gL e
   refine ⟨g1,g2,fun x => ?_⟩
   rcases oB with e' | e'
   ·exact g3 (by rw [x];exact e')
   ·omega
  ·refine ⟨hnew _ (by omega),by omega,fun x => ?_⟩
   rcases oB with e' | e'
   ·have := (fB gB e').2;omega
   ·omega
 have hgB : G gB ∧ gB ≠ m := by
  rcases oB with e' | e'
  ·exact (fB gB e').1
  ·exact ⟨hnew _ (by omega),by omega⟩
 have hLz : FR z' gL cL (a.n + 1) F' := OR.kept (OR.grow hL hz) kB fun e => by
  rcases oL with e' | e'
  ·exact (fL gL e').1.2.2 e
  ·have := (fB gL e).2;omega
 refine ⟨⟨?_,.inr ⟨gL,cL,rfl,OR.kept hLz k5 hgL.2.1,hgL.1,hgL.2.1,fun e => hgL.2.2 (by injection e with e;exact e.symm)⟩,.inr ⟨gB,cB,rfl,OR.kept hB k5 hgB.2,hgB⟩,hs,?_,h.cc,fun x e => ?_,h.inG,fun x e => ?_⟩,(kz.mono fun k _ e => .inl e).trans (k5.mono fun k _ e => .inr e)⟩
 ·refine (((h.hd.kept kz fun e => ?_).set 0 _).set 1 _).congr fun i hi => ?_
  ·rcases e with e | e
   ·exact hmL m e rfl
   ·exact hmB m e rfl
  ·have : i = 0 ∨ i = 1 ∨ i = 2 := by omega
   rcases this with rfl | rfl | rfl <;> rfl
 ·exact sl_at (sl_at h.id kz fun x e y => by
   rcases y with y | y
   ·exact (h.off x e).2.2.1 y
   ·exact (h.off x e).2.2.2 y) k5 fun x e y => (h.off x e).2.1 y
 ·obtain ⟨o1,o2,o3,o4⟩ := h.off x e
  have hl := h.lt x e
  refine ⟨o1,o2,fun y => ?_,fun y => ?_⟩
  ·injection y with y
   have y : gL = x.block := y
   rcases oL with e' | e'
   ·exact o3 (by rw [← y];exact e')
   ·omega
  ·injection y with y
   have y : gB = x.block := y
   rcases oB with e' | e'
   ·exact o4 (by rw [← y];exact e')
   ·omega
 ·exact Nat.lt_of_lt_of_le (Nat.lt_of_lt_of_le (h.lt x e) kz.size) k5.size
set_option maxRecDepth 100000 in
theorem radd_old (h : RAt w G m a) (hnew : ∀ k,w.heap.size ≤ k → G k) (hsp : a.spare < a.n) : Calls Tryz.prog 111 #[.pointer (some ⟨m,0,none⟩)] w (RPost G m w (.int .i64 (a.spare : Int)) (a.addF a.spare)) := by
 have hn32 := h.good.n
 have HQL : Hid (a.Q.length ≤ 32) := by show _ ≤ _;rw [h.good.free];exact Nat.le_trans (cnt_le _ _) hn32
 have hs4 := spare_gone hsp
 have HG := hid (h.good.addF (by omega))
 have e2 : a.addF a.spare = ⟨a.n,upd a.F a.spare fFree,a.B,a.Q ++ [a.spare]⟩ := addF_old hsp
 rw [e2] at HG ⊢
 obtain ⟨g,cap,vB,A,c,S,hb,hfr,hgG⟩ := h.form (by omega)
 have HNW := hid hnew
 have HB := hid hb
 have HFR := hid hfr
 have hnz : (a.n : Int) ≤ 32 := by omega
 have HSP : Hid (∀ j,j < a.n → (∀ k,k < j → isG a k = false) → isG a j = true → a.spare = j) := fun j hj hno hh => least_eq hj hh hno
 have HS4 : Hid (isG a a.spare = true) := decide_eq_true hs4
 clear h hb hfr hnew e2 hs4
 go_enter Tryz.func111,Tryz.ntmps111
 go_wp2
 go_loopg [3] a.n (fun gx i wr => ∃ j : Nat,j + gx = a.n ∧ i = .int .i64 (j : Int) ∧ (∀ k,k < j → isG a k = false) ∧ w = wr)
 case atStart => exact ⟨0,by omega,rfl,fun k hk => absurd hk (by omega),rfl⟩
 case round =>
  obtain ⟨j,hg,rfl,hno,rfl⟩ := hrel
  have HJ := hid hg
  have HNO := hid hno
  clear hg hno
  have c0 := HB.out.c0
  by_cases hj : j < a.n
  ·have hjz : (j : Int) < (a.n : Int) := by omega
   have f0 := FR.c0 HFR.out hj
   by_cases h4 : (a.F j).st = 4
   ·have hsj : a.spare = j := HSP.out j hj HNO.out (decide_eq_true h4)
    rw [hsj] at HG
    have HSJ := hid hsj
    rw [h4] at f0
    have f1 := FR.c1 HFR.out hj
    have f2 := FR.c2 HFR.out hj
    have f3 := FR.c3 HFR.out hj
    have f4 := FR.c4 HFR.out hj
    have fz := OR.frozen HFR.out
    have hj32 : (j : Int) < 32 := by omega
    have hjn : ((j : Int) == (a.n : Int)) = false := by rw [beq_eq_false_iff_ne];omega
    have HK1 := hid (kept_setF w g j fFree)
    have H1 := hid (RMem.frm HB.out (FR.setF HFR.out j fFree) HK1.out fun x hx hs1 => HB.out.sb x hx (by
     by_cases e : x = j
     ·subst e;rw [upd_same] at hs1;have : (0 : Int) = 1 := hs1;omega
     ·rw [upd_other _ _ e] at hs1;exact hs1))
    have HKG : Hid (Kept G w (setF w g j fFree)) := HK1.out.mono fun k _ e => by subst e;exact hgG
    clear h4 hsj hj
    go_upto_region 9 with (fail)
    rw [show (((((w.setCell ⟨g,j * 5,none⟩ (.int .i64 0)).setCell ⟨g,j * 5 + 1,none⟩ (.int .i64 (-1))).setCell ⟨g,j * 5 + 2,none⟩ (.int .i64 0)).setCell ⟨g,j * 5 + 3,none⟩ (.int .i64 0)).setCell ⟨g,j * 5 + 4,none⟩ (.bool false)) = setF w g j fFree from rfl]
    clear c0 f0 f1 f2 f3 f4 fz HK1 HFR HB
    obtain ⟨f,rfl⟩ : ∃ f,f = j := ⟨_,rfl⟩
    generalize setF w g f fFree = w1 at *
    have HNW1 : Hid (∀ k,w1.heap.size ≤ k → G k) := fun k hk => HNW.out k (Nat.le_trans HKG.out.size hk)
    have c2 : w1.cell? ⟨m,2,none⟩ = some (.slice A a.Q.length c) := H1.out.c2
    obtain ⟨v2,w2,hr2,ho2,hg2⟩ := copy_idle (a := ⟨a.n,upd a.F f fFree,a.B,a.Q⟩) H1.out (Nat.le_trans HQL.out (by omega))
    have c2a : (w1.alloc (.cells #[] 3)).cell? ⟨m,2,none⟩ = some (.slice A a.Q.length c) := Lib.cell?_alloc_some _ c2
    clear c2
    have HR2 := hid hr2
    have HO2 := hid ho2
    have HG2 := hid hg2
    clear hr2 ho2 hg2
    go_wp2_with (first
     | (at_builtin;refine Lib.wpList_append_run _ rfl _ _ _ _ rfl _ _ rfl rfl _ _ (HR2.out _) ?_)
     | (at_builtin;refine wpList_append_one rfl _ _ 33 rfl w1.heap.size 3 (.int .i64 0) 8 Tryz.underlying33 infoI rfl _ a.Q.length _ rfl (World.ownsRow.alloc HO2.out _) w2.heap.size (.int .i64 (f : Int)) rfl (cell_new1 _ _ _) rfl (by have := HQL.out;unfold maxLen;omega) (by have := HQL.out;omega) (by have := HG2.out.size;simp;omega) ?_;intro g4 cap4 w4 hown hbel;have HOW4 := hid hown;have HG4 := hid (below_grow (HG2.out.trans ((Kept.refl _ w2).alloc _)) (Nat.le_refl _) hbel);clear hown hbel c2a;have e2 : w4.cell? ⟨m,2,none⟩ = some (.slice A a.Q.length c) := (H1.out.hd.kept HG4.out (fun x => x)).cell (i := 2) (by omega);have mz := (H1.out.hd.kept HG4.out (fun x => x)).frozen 2))
    obtain ⟨hs4,hc4,hA4⟩ := own_sl HOW4.out
    have H4 := hid (RMem.idle (a := ⟨a.n,upd a.F f fFree,a.B,a.Q⟩) H1.out HNW1.out HG4.out hs4 hc4 hA4)
    have HK4 : Hid (Kept G w1 (w4.setCell ⟨m,2,none⟩ (.slice (some ⟨g4,0,none⟩) (a.Q.length + 1) cap4))) := HG4.out.kept.trans ((kept_set _ _ _ _).mono fun k _ e => by subst e;exact H1.out.inG)
    clear hs4 hc4 hA4 e2 mz
    go_ret
    rw [HSJ.out]
    exact ⟨rfl,⟨HG.out,_,_,_,_,_,H4.out⟩,HKG.out.trans HK4.out⟩
   ·have HE : Hid (isG a j = false) := decide_eq_false h4
    have h4' : ((a.F j).st == 4) = false := beq_eq_false_iff_ne.2 h4
    have h4'' : ((a.F j).st != 4) = true := by unfold bne;rw [h4'];rfl
    generalize (a.F j).st = st at *
    go_wp2
    go_roundg (gk - 1)
    case measure => have := HJ.out;omega
    case rel =>
     refine ⟨j + 1,by have := HJ.out;omega,by go_num,fun k hk => ?_,rfl⟩
     by_cases e : k = j
     ·subst e;exact HE.out
     ·exact HNO.out k (by omega)
  ·exfalso
   have := HNO.out a.spare (by omega)
   rw [HS4.out] at this
   cases this
theorem seek_low {p : Nat → Bool} {g i j : Nat} (h1 : i ≤ j) (h2 : j < seek p g i) : p j = false := by
 induction g generalizing i with
 | zero => unfold seek at h2;omega
 | succ g ih =>
  unfold seek at h2
  split at h2
  ·omega
  ·next e =>
   by_cases ei : i = j
   ·subst ei;simpa using e
   ·exact ih (by omega) h2
theorem no_gone {a : Ar} (h : a.spare = a.n) {k : Nat} (hk : k < a.n) : isG a k = false := seek_low (p := isG a) (g := a.n) (i := 0) (Nat.zero_le _) (by
 have : seek (isG a) a.n 0 = a.n := h
 omega)
theorem radd_full (h : RAt w G m a) (hs : a.spare = a.n) (h32 : a.n = 32) : Calls Tryz.prog 111 #[.pointer (some ⟨m,0,none⟩)] w fun e w' => e = .returned (.int .i64 (-1)) ∧ w = w' := by
 obtain ⟨vL,vB,A,c,S,hb⟩ := h.mem
 obtain ⟨AL,cL,rfl,hL⟩ := os_sl hb.fr
 have HL := hid hL
 have HB := hid hb
 have HNG : Hid (∀ k,k < a.n → isG a k = false) := fun k hk => no_gone hs hk
 have hnz : (a.n : Int) = 32 := by omega
 have hnz2 : (a.n : Int) ≤ 32 := by omega
 have hnz3 : (32 : Int) ≤ (a.n : Int) := by omega
 clear h hb hs hL hnz
 go_enter Tryz.func111,Tryz.ntmps111
 go_wp2
 go_loopg [3] a.n (fun gx i wr => ∃ j : Nat,j + gx = a.n ∧ i = .int .i64 (j : Int) ∧ w = wr)
 case atStart => exact ⟨0,by omega,rfl,rfl⟩
 case round =>
  obtain ⟨j,hg,rfl,rfl⟩ := hrel
  have HJ := hid hg
  clear hg
  have c0 := HB.out.c0
  by_cases hj : j < a.n
  ·have hjz : (j : Int) < (a.n : Int) := by omega
   obtain ⟨gL,rfl,ho⟩ := HL.out (by omega)
   have f0 := FR.c0 ho hj
   have h4' : ((a.F j).st == 4) = false := beq_eq_false_iff_ne.2 (of_decide_eq_false (HNG.out j hj))
   have h4'' : ((a.F j).st != 4) = true := by unfold bne;rw [h4'];rfl
   clear ho
   generalize (a.F j).st = st at *
   go_wp2
   go_roundg (gk - 1)
   case measure => have := HJ.out;omega
   case rel => exact ⟨j + 1,by have := HJ.out;omega,by go_num,rfl⟩
  ·obtain rfl : j = a.n := by have := HJ.out;omega
   go_wp2
   go_ret
   exact ⟨rfl,rfl⟩
def NRows (w : World) (G : Nat → Prop) (m : Nat) (A : Option Addr) (c : Nat) (S : Nat → List Int) (a : Ar) (wx : World) : Prop :=
 ∃ gL cL gB cB,RMem wx G m (.slice (some ⟨gL,0,none⟩) (a.n + 1) cL) (.slice (some ⟨gB,0,none⟩) (a.n + 1) cB) A c (upd S a.n []) ⟨a.n + 1,upd a.F a.n ⟨0,0,0,false⟩,a.B,a.Q⟩ ∧ Kept G w wx
set_option maxRecDepth 100000 in
set_option maxHeartbeats 4000000 in
theorem radd_new (h : RAt w G m a) (hnew : ∀ k,w.heap.size ≤ k → G k) (hs : a.spare = a.n) (h32 : a.n < 32) : Calls Tryz.prog 111 #[.pointer (some ⟨m,0,none⟩)] w (RPost G m w (.int .i64 (a.n : Int)) (a.addF a.n)) := by
 have hn32 := h.good.n
 have HQL : Hid (a.Q.length ≤ 32) := by show _ ≤ _;rw [h.good.free];exact Nat.le_trans (cnt_le _ _) hn32
 have HG := h.good.addF (by omega)
 rw [hs] at HG
 have HG' := hid HG
 obtain ⟨vL,vB,A,c,S,hb⟩ := h.mem
 obtain ⟨AL,cL,rfl,hL⟩ := os_sl hb.fr
 have HL := hid hL
 have HB := hid hb
 have HNW := hid hnew
 have HNG : Hid (∀ k,k < a.n → isG a k = false) := fun k hk => no_gone hs hk
 have hnz : (a.n : Int) < 32 := by omega
 have hne32 : ((a.n : Int) == 32) = false := by rw [beq_eq_false_iff_ne];omega
 clear h hb hs hL hnew HG
 go_enter Tryz.func111,Tryz.ntmps111
 go_wp2
 go_loopg [3] a.n (fun gx i wr => ∃ j : Nat,j + gx = a.n ∧ i = .int .i64 (j : Int) ∧ w = wr)
 case atStart => exact ⟨0,by omega,rfl,rfl⟩
 case round =>
  obtain ⟨j,hg,rfl,rfl⟩ := hrel
  have HJ := hid hg
  clear hg
  have c0 := HB.out.c0
  by_cases hj : j < a.n
  ·have hjz : (j : Int) < (a.n : Int) := by omega
   obtain ⟨gL,rfl,ho⟩ := HL.out (by omega)
   have f0 := FR.c0 ho hj
   have h4' : ((a.F j).st == 4) = false := beq_eq_false_iff_ne.2 (of_decide_eq_false (HNG.out j hj))
   have h4'' : ((a.F j).st != 4) = true := by unfold bne;rw [h4'];rfl
   clear ho
   generalize (a.F j).st = st at *
   go_wp2
   go_roundg (gk - 1)
   case measure => have := HJ.out;omega
   case rel => exact ⟨j + 1,by have := HJ.out;omega,by go_num,rfl⟩
  ·obtain rfl : j = a.n := by have := HJ.out;omega
   have HSB : Hid (∀ x,x < a.n + 1 → (upd a.F a.n ⟨0,0,0,false⟩ x).st = 1 → upd S a.n [] x = a.B x) := fun x hx hs1 => by
    by_cases e : x = a.n
    ·subst e;rw [upd_same] at hs1;have hs1 : (0 : Int) = 1 := hs1;omega
    ·rw [upd_other _ _ e] at hs1 ⊢;exact HB.out.sb x (by omega) hs1
   have HR2 : Hid (∀ k,Rows2 (.slice AL a.n cL) vB k ∨ k = m → G k) := fun k x => by
    rcases x with (x | x) | x
    ·exact (HB.out.fr.own.2 k x).1.1
    ·exact (HB.out.bo.own.2 k x).1.1
    ·subst x;exact HB.out.inG
   have HNM : Hid (¬ Rows2 (.slice AL a.n cL) vB m) := fun x => x.elim (fun e => (HB.out.fr.own.2 m e).1.2.1 rfl) (fun e => (HB.out.bo.own.2 m e).1.2 rfl)
   have c1 := HB.out.c1
   go_upto_region 7 with (fail)
   go_cut [] from 33 to 51 (fun wx => NRows w G m A c S a wx)
   case first =>
    have q0 := up_cell (F := Rows2 (.slice AL a.n cL) vB) (w := w.drew) (p := ⟨m,0,none⟩) c0 HNM.out
    have q1 := up_cell (F := Rows2 (.slice AL a.n cL) vB) (w := w.drew) (p := ⟨m,1,none⟩) c1 HNM.out
    refine wp_region_tree (Kept (Rows2 (.slice AL a.n cL) vB)) (Kept fun k => Rows2 (.slice AL a.n cL) vB k ∨ k = m) (kept_refl _) (kept_trans _) (kept_refl _) (kept_trans _) (fun _ _ h => h.mono fun _ _ x => .inl x) [17,20]
     (.look false [1,9,10,11] (.two true [0,2,3,4,5,6,12] 7 (.two true [] 8 (.one true [] 13 (.one true [] 14 (.one false [15,16] 17 (.one false [18,19] 20 (.last false []))))) 13 (.one true [] 8 (.one true [] 14 (.one false [15,16] 17 (.one false [18,19] 20 (.last false [])))))) 13 (.one true [] 7 (.one true [] 8 (.one true [] 14 (.one false [15,16] 17 (.one false [18,19] 20 (.last false [])))))))) (by kernel_rfl) (by kernel_rfl) ?_
    refine tr_lookL fun K hK => ?_
    simp only [sel,ZmC,ZmN,ZgS,ZgZ]
    repeat (go_big_quiet_step (fail))
    refine wpQuiet_nil (hK _ ?_)
    clear hK K
    refine tr_twoE fun K1 hK1 K2 hK2 => ?_
    simp only [sel,ZmC,ZmN,ZgS,ZgZ]
    repeat (go_big_quiet_step (fail))
    refine wpQuiet_nil ⟨?_,?_⟩
    ·clear hK2 K2
     go_wp2
     have hb7 := Blk.drew (Blk.new w 36 [.int .i64 0,.int .i64 0,.int .i64 0,.int .i64 0,.bool false])
     have gx1 : Grow w ((w.alloc (.cells #[.int .i64 0,.int .i64 0,.int .i64 0,.int .i64 0,.bool false] 36)).drew) := ((Kept.refl _ w).alloc _).drew
     refine norm_up (hK1 _ _ (Lr_early (by decide) (show Kept _ w.drew (w.alloc (.cells #[.int .i64 0,.int .i64 0,.int .i64 0,.int .i64 0,.bool false] 36)).drew from (Kept.refl _ w.drew).alloc (.cells #[.int .i64 0,.int .i64 0,.int .i64 0,.int .i64 0,.bool false] 36))) ?_)
     have HB7 : Hid (Blk ((w.alloc (.cells #[.int .i64 0,.int .i64 0,.int .i64 0,.int .i64 0,.bool false] 36)).drew) w.heap.size 36 [.int .i64 0,.int .i64 0,.int .i64 0,.int .i64 0,.bool false]) := hb7
     have HGx1 := hid gx1
     clear hK1 K1 hb7 gx1
     generalize (w.alloc (.cells #[.int .i64 0,.int .i64 0,.int .i64 0,.int .i64 0,.bool false] 36)).drew = x1 at *
     refine tr_twoE fun Ka hKa Kb hKb => ?_
     simp only [sel,ZmC,ZmN,ZgS,ZgZ]
     refine wpQuiet_nil ⟨?_,?_⟩
     ·clear hKb Kb
      obtain ⟨gL,cL',x2,hr8,hf8,hk8,ho8⟩ := app_frame (P := fun _ => True) (vb := w.heap.size) (os_mono (HB.out.fr.kept HGx1.out fun _ _ x => x) fun _ _ _ => trivial) (by omega) HB7.out
      have HR8 := hid hr8
      have HF8 := hid hf8
      have HK8 := hid hk8
      have HO8 := hid ho8
      clear hr8 hf8 hk8 ho8
      go_wp2_with (at_builtin;refine Lib.wpList_append_run _ rfl _ _ _ _ rfl _ _ rfl rfl _ _ (HR8.out _) ?_)
      refine norm_up (hKa _ _ (Lr_early (by decide) (HK8.out.mono fun k _ e => .inl e)) ?_)
      clear hKa Ka HR8
      refine tr_oneE fun K hK => ?_
      simp only [sel,ZmC,ZmN,ZgS,ZgZ]
      refine wpQuiet_nil ?_
      go_wp2
      have hb13 := Blk.new x2 9 [.string ⟨#[]⟩]
      have g3 : Grow x2 (x2.alloc (.cells #[.string ⟨#[]⟩] 9)) := (Kept.refl _ _).alloc _
      refine norm_up (hK _ _ (Lr_early (by decide) ((Kept.refl _ _).alloc _)) ?_)
      have HB13 : Hid (Blk (x2.alloc (.cells #[.string ⟨#[]⟩] 9)) x2.heap.size 9 [.string ⟨#[]⟩]) := hb13
      have HG3 := hid g3
      clear hK K hb13 g3
      generalize x2.alloc (.cells #[.string ⟨#[]⟩] 9) = x3 at *
      refine tr_oneE fun K hK => ?_
      simp only [sel,ZmC,ZmN,ZgS,ZgZ]
      refine wpQuiet_nil ?_
      have hnB : ∀ k,vB.ownBlock = some k → k < w.heap.size := fun k e => (HB.out.bo.own.2 k e).2
      obtain ⟨gB,cB,z4,hr14,hf14,hk14,ho14⟩ := app_str (P := fun _ => True) (S := S) (vb := x2.heap.size) (os_mono (os_kept (os_kept HB.out.bo ((Grow.kept (F := fun k => (Value.slice AL a.n cL).ownBlock = some k) HGx1.out).trans HK8.out) (fun k x y => (HB.out.fr.own.2 k y).1.2.2 x)) HG3.out fun _ _ x => x) fun _ _ _ => trivial) (by omega) (HB13.out)
      have HR14 := hid hr14
      go_wp2_with (at_builtin;refine Lib.wpList_append_run _ rfl _ _ _ _ rfl _ _ rfl rfl _ _ (HR14.out _) ?_)
      refine norm_up (hK _ _ (Lr_early (by decide) (hk14.mono fun k _ e => .inr e)) ?_)
      clear hK K hr14 HR14
      obtain ⟨hm5,hk5⟩ := RMem.rows HB.out HNW.out HGx1.out HF8.out HK8.out HO8.out HG3.out hf14 hk14 ho14 HSB.out
      have HM5 := hid hm5
      have HK5 := hid hk5
      have hdz := HB.out.hd.kept (F := Rows2 (.slice AL a.n cL) vB) ((((Grow.kept HGx1.out).trans (HK8.out.mono fun k _ e => .inl e)).trans (Grow.kept HG3.out)).trans (hk14.mono fun k _ e => .inr e)) HNM.out
      have d0 : z4.cell? ⟨m,0,none⟩ = some (.slice AL a.n cL) := hdz.cell (i := 0) (by omega)
      have dz := hdz.frozen
      have e1 : (z4.setCell ⟨m,0,none⟩ (.slice (some ⟨gL,0,none⟩) (a.n + 1) cL')).cell? ⟨m,1,none⟩ = some vB := (hdz.set 0 _).cell (i := 1) (by omega)
      have ez := (hdz.set 0 (.slice (some ⟨gL,0,none⟩) (a.n + 1) cL')).frozen
      clear hm5 hk5 hf14 hk14 ho14 hdz hnB
      refine tr_oneL fun K hK => ?_
      simp only [sel,ZmC,ZmN,ZgS,ZgZ]
      repeat (go_big_quiet_step (fail))
      refine wpQuiet_nil ?_
      go_wp2
      refine norm_up (hK _ _ (Lr_late (by decide) ((kept_set _ _ _ _).mono fun k _ e => .inr e)) ?_)
      clear hK K d0 dz
      refine tr_oneL fun K hK => ?_
      simp only [sel,ZmC,ZmN,ZgS,ZgZ]
      repeat (go_big_quiet_step (fail))
      refine wpQuiet_nil ?_
      go_wp2
      refine norm_up (hK _ _ (Lr_late (by decide) ((kept_set _ _ _ _).mono fun k _ e => .inr e)) ?_)
      clear hK K e1 ez
      refine tr_lastL fun K hK => ?_
      simp only [sel,ZmN]
      refine wpQuiet_nil (hK _ ?_)
      clear hK K
      go_wp2
      go_meet
      exact ⟨gL,cL',gB,cB,HM5.out,HK5.out.mono fun k _ x => HR2.out k x⟩
     ·clear hKa Ka
      go_wp2
      have hb13 := Blk.new x1 9 [.string ⟨#[]⟩]
      have gx2 : Grow w (x1.alloc (.cells #[.string ⟨#[]⟩] 9)) := HGx1.out.alloc _
      refine norm_up (hKb _ _ (Lr_early (by decide) ((Kept.refl _ _).alloc _)) ?_)
      have HB13 : Hid (Blk (x1.alloc (.cells #[.string ⟨#[]⟩] 9)) x1.heap.size 9 [.string ⟨#[]⟩]) := hb13
      have HGx2 := hid gx2
      have HB7 := hid (Blk.grow HB7.out ((Kept.refl _ x1).alloc (.cells #[.string ⟨#[]⟩] 9)))
      clear hKb Kb hb13 gx2
      generalize x1.alloc (.cells #[.string ⟨#[]⟩] 9) = x2 at *
      refine tr_oneE fun Ka hKa => ?_
      simp only [sel,ZmC,ZmN,ZgS,ZgZ]
      refine wpQuiet_nil ?_
      obtain ⟨gL,cL',x3,hr8,hf8,hk8,ho8⟩ := app_frame (P := fun _ => True) (vb := w.heap.size) (os_mono (HB.out.fr.kept HGx2.out fun _ _ x => x) fun _ _ _ => trivial) (by omega) HB7.out
      have HR8 := hid hr8
      have HF8 := hid hf8
      have HK8 := hid hk8
      have HO8 := hid ho8
      clear hr8 hf8 hk8 ho8
      go_wp2_with (at_builtin;refine Lib.wpList_append_run _ rfl _ _ _ _ rfl _ _ rfl rfl _ _ (HR8.out _) ?_)
      refine norm_up (hKa _ _ (Lr_early (by decide) (HK8.out.mono fun k _ e => .inl e)) ?_)
      clear hKa Ka HR8
      refine tr_oneE fun K hK => ?_
      simp only [sel,ZmC,ZmN,ZgS,ZgZ]
      refine wpQuiet_nil ?_
      have hnB : ∀ k,vB.ownBlock = some k → k < w.heap.size := fun k e => (HB.out.bo.own.2 k e).2
      obtain ⟨gB,cB,z4,hr14,hf14,hk14,ho14⟩ := app_str (P := fun _ => True) (S := S) (vb := x1.heap.size) (os_mono (os_kept HB.out.bo ((Grow.kept (F := fun k => (Value.slice AL a.n cL).ownBlock = some k) HGx2.out).trans HK8.out) (fun k x y => (HB.out.fr.own.2 k y).1.2.2 x)) fun _ _ _ => trivial) (by omega) (Blk.kept HB13.out HK8.out (fun e => by have h1 := (HB.out.fr.own.2 _ e).2;have h2 := HGx1.out.size;omega))
      have HR14 := hid hr14
      go_wp2_with (at_builtin;refine Lib.wpList_append_run _ rfl _ _ _ _ rfl _ _ rfl rfl _ _ (HR14.out _) ?_)
      refine norm_up (hK _ _ (Lr_early (by decide) (hk14.mono fun k _ e => .inr e)) ?_)
      clear hK K hr14 HR14
      obtain ⟨hm5,hk5⟩ := RMem.rows HB.out HNW.out HGx2.out HF8.out HK8.out HO8.out (Kept.refl _ _) hf14 hk14 ho14 HSB.out
      have HM5 := hid hm5
      have HK5 := hid hk5
      have hdz := HB.out.hd.kept (F := Rows2 (.slice AL a.n cL) vB) ((((Grow.kept HGx2.out).trans (HK8.out.mono fun k _ e => .inl e)).trans (Grow.kept (Kept.refl _ _))).trans (hk14.mono fun k _ e => .inr e)) HNM.out
      have d0 : z4.cell? ⟨m,0,none⟩ = some (.slice AL a.n cL) := hdz.cell (i := 0) (by omega)
      have dz := hdz.frozen
      have e1 : (z4.setCell ⟨m,0,none⟩ (.slice (some ⟨gL,0,none⟩) (a.n + 1) cL')).cell? ⟨m,1,none⟩ = some vB := (hdz.set 0 _).cell (i := 1) (by omega)
      have ez := (hdz.set 0 (.slice (some ⟨gL,0,none⟩) (a.n + 1) cL')).frozen
      clear hm5 hk5 hf14 hk14 ho14 hdz hnB
      refine tr_oneL fun K hK => ?_
      simp only [sel,ZmC,ZmN,ZgS,ZgZ]
      repeat (go_big_quiet_step (fail))
      refine wpQuiet_nil ?_
      go_wp2
      refine norm_up (hK _ _ (Lr_late (by decide) ((kept_set _ _ _ _).mono fun k _ e => .inr e)) ?_)
      clear hK K d0 dz
      refine tr_oneL fun K hK => ?_
      simp only [sel,ZmC,ZmN,ZgS,ZgZ]
      repeat (go_big_quiet_step (fail))
      refine wpQuiet_nil ?_
      go_wp2
      refine norm_up (hK _ _ (Lr_late (by decide) ((kept_set _ _ _ _).mono fun k _ e => .inr e)) ?_)
      clear hK K e1 ez
      refine tr_lastL fun K hK => ?_
      simp only [sel,ZmN]
      refine wpQuiet_nil (hK _ ?_)
      clear hK K
      go_wp2
      go_meet
      exact ⟨gL,cL',gB,cB,HM5.out,HK5.out.mono fun k _ x => HR2.out k x⟩
    ·clear hK1 K1
     go_wp2
     have hb13 := Blk.drew (Blk.new w 9 [.string ⟨#[]⟩])
     have gx1 : Grow w ((w.alloc (.cells #[.string ⟨#[]⟩] 9)).drew) := ((Kept.refl _ w).alloc _).drew
     refine norm_up (hK2 _ _ (Lr_early (by decide) (show Kept _ w.drew (w.alloc (.cells #[.string ⟨#[]⟩] 9)).drew from (Kept.refl _ w.drew).alloc (.cells #[.string ⟨#[]⟩] 9))) ?_)
     have HB13 : Hid (Blk ((w.alloc (.cells #[.string ⟨#[]⟩] 9)).drew) w.heap.size 9 [.string ⟨#[]⟩]) := hb13
     have HGx1 := hid gx1
     clear hK2 K2 hb13 gx1
     generalize (w.alloc (.cells #[.string ⟨#[]⟩] 9)).drew = x1 at *
     refine tr_oneE fun Ka hKa => ?_
     simp only [sel,ZmC,ZmN,ZgS,ZgZ]
     refine wpQuiet_nil ?_
     go_wp2
     have hb7 := Blk.new x1 36 [.int .i64 0,.int .i64 0,.int .i64 0,.int .i64 0,.bool false]
     have gx2 : Grow w (x1.alloc (.cells #[.int .i64 0,.int .i64 0,.int .i64 0,.int .i64 0,.bool false] 36)) := HGx1.out.alloc _
     refine norm_up (hKa _ _ (Lr_early (by decide) ((Kept.refl _ _).alloc _)) ?_)
     have HB7 : Hid (Blk (x1.alloc (.cells #[.int .i64 0,.int .i64 0,.int .i64 0,.int .i64 0,.bool false] 36)) x1.heap.size 36 [.int .i64 0,.int .i64 0,.int .i64 0,.int .i64 0,.bool false]) := hb7
     have HGx2 := hid gx2
     have HB13b : Hid (Blk (x1.alloc (.cells #[.int .i64 0,.int .i64 0,.int .i64 0,.int .i64 0,.bool false] 36)) w.heap.size 9 [.string ⟨#[]⟩]) := Blk.grow HB13.out ((Kept.refl _ _).alloc _)
     clear hKa Ka hb7 gx2
     generalize x1.alloc (.cells #[.int .i64 0,.int .i64 0,.int .i64 0,.int .i64 0,.bool false] 36) = x2 at *
     refine tr_oneE fun Ka hKa => ?_
     simp only [sel,ZmC,ZmN,ZgS,ZgZ]
     refine wpQuiet_nil ?_
     obtain ⟨gL,cL',x3,hr8,hf8,hk8,ho8⟩ := app_frame (P := fun _ => True) (vb := x1.heap.size) (os_mono (HB.out.fr.kept HGx2.out fun _ _ x => x) fun _ _ _ => trivial) (by omega) HB7.out
     have HR8 := hid hr8
     have HF8 := hid hf8
     have HK8 := hid hk8
     have HO8 := hid ho8
     clear hr8 hf8 hk8 ho8
     go_wp2_with (at_builtin;refine Lib.wpList_append_run _ rfl _ _ _ _ rfl _ _ rfl rfl _ _ (HR8.out _) ?_)
     refine norm_up (hKa _ _ (Lr_early (by decide) (HK8.out.mono fun k _ e => .inl e)) ?_)
     clear hKa Ka HR8
     refine tr_oneE fun K hK => ?_
     simp only [sel,ZmC,ZmN,ZgS,ZgZ]
     refine wpQuiet_nil ?_
     have hnB : ∀ k,vB.ownBlock = some k → k < w.heap.size := fun k e => (HB.out.bo.own.2 k e).2
     obtain ⟨gB,cB,z4,hr14,hf14,hk14,ho14⟩ := app_str (P := fun _ => True) (S := S) (vb := w.heap.size) (os_mono (os_kept HB.out.bo ((Grow.kept (F := fun k => (Value.slice AL a.n cL).ownBlock = some k) HGx2.out).trans HK8.out) (fun k x y => (HB.out.fr.own.2 k y).1.2.2 x)) fun _ _ _ => trivial) (by omega) (Blk.kept HB13b.out HK8.out (fun e => by have h1 := (HB.out.fr.own.2 _ e).2;omega))
     have HR14 := hid hr14
     go_wp2_with (at_builtin;refine Lib.wpList_append_run _ rfl _ _ _ _ rfl _ _ rfl rfl _ _ (HR14.out _) ?_)
     refine norm_up (hK _ _ (Lr_early (by decide) (hk14.mono fun k _ e => .inr e)) ?_)
     clear hK K hr14 HR14
     obtain ⟨hm5,hk5⟩ := RMem.rows HB.out HNW.out HGx2.out HF8.out HK8.out HO8.out (Kept.refl _ _) hf14 hk14 ho14 HSB.out
     have HM5 := hid hm5
     have HK5 := hid hk5
     have hdz := HB.out.hd.kept (F := Rows2 (.slice AL a.n cL) vB) ((((Grow.kept HGx2.out).trans (HK8.out.mono fun k _ e => .inl e)).trans (Grow.kept (Kept.refl _ _))).trans (hk14.mono fun k _ e => .inr e)) HNM.out
     have d0 : z4.cell? ⟨m,0,none⟩ = some (.slice AL a.n cL) := hdz.cell (i := 0) (by omega)
     have dz := hdz.frozen
     have e1 : (z4.setCell ⟨m,0,none⟩ (.slice (some ⟨gL,0,none⟩) (a.n + 1) cL')).cell? ⟨m,1,none⟩ = some vB := (hdz.set 0 _).cell (i := 1) (by omega)
     have ez := (hdz.set 0 (.slice (some ⟨gL,0,none⟩) (a.n + 1) cL')).frozen
     clear hm5 hk5 hf14 hk14 ho14 hdz hnB
     refine tr_oneL fun K hK => ?_
     simp only [sel,ZmC,ZmN,ZgS,ZgZ]
     repeat (go_big_quiet_step (fail))
     refine wpQuiet_nil ?_
     go_wp2
     refine norm_up (hK _ _ (Lr_late (by decide) ((kept_set _ _ _ _).mono fun k _ e => .inr e)) ?_)
     clear hK K d0 dz
     refine tr_oneL fun K hK => ?_
     simp only [sel,ZmC,ZmN,ZgS,ZgZ]
     repeat (go_big_quiet_step (fail))
     refine wpQuiet_nil ?_
     go_wp2
     refine norm_up (hK _ _ (Lr_late (by decide) ((kept_set _ _ _ _).mono fun k _ e => .inr e)) ?_)
     clear hK K e1 ez
     refine tr_lastL fun K hK => ?_
     simp only [sel,ZmN]
     refine wpQuiet_nil (hK _ ?_)
     clear hK K
     go_wp2
     go_meet
     exact ⟨gL,cL',gB,cB,HM5.out,HK5.out.mono fun k _ x => HR2.out k x⟩
   case rest =>
    obtain ⟨gL,cL',gB,cB,hm,hkc⟩ := hcut
    have HM := hid hm
    have HKC := hid hkc
    obtain ⟨g',c',e,hfr,hgG,_⟩ := hm.fr.form (Nat.succ_pos _)
    have e' : gL = g' ∧ cL' = c' := by
     injection e with e1 e2 e3
     injection e1 with e1
     injection e1 with e1
     exact ⟨e1,e3⟩
    obtain ⟨rfl,rfl⟩ := e'
    have HFR := hid hfr
    have hlt : a.n < a.n + 1 := Nat.lt_succ_self _
    have HADD : Hid ((⟨a.n + 1,upd (upd a.F a.n ⟨0,0,0,false⟩) a.n fFree,a.B,a.Q ++ [a.n]⟩ : Ar) = a.addF a.n) := addF_n a ⟨0,0,0,false⟩
    have c0 := HM.out.c0
    have f0 := FR.c0 HFR.out hlt
    have f1 := FR.c1 HFR.out hlt
    have f2 := FR.c2 HFR.out hlt
    have f3 := FR.c3 HFR.out hlt
    have f4 := FR.c4 HFR.out hlt
    have fz := OR.frozen HFR.out
    have HK1 := hid (kept_setF wc gL a.n fFree)
    have H1 := hid (RMem.frm (a := ⟨a.n + 1,upd a.F a.n ⟨0,0,0,false⟩,a.B,a.Q⟩) HM.out (FR.setF HFR.out a.n fFree) HK1.out fun x hx hs1 => HM.out.sb x hx (by
     by_cases e : x = a.n
     ·subst e;rw [upd_same] at hs1;have : (0 : Int) = 1 := hs1;omega
     ·rw [upd_other _ _ e] at hs1;exact hs1))
    have HKG : Hid (Kept G w (setF wc gL a.n fFree)) := HKC.out.trans (HK1.out.mono fun k _ e => by subst e;exact hgG)
    have hnz1 : (a.n : Int) < ((a.n + 1 : Nat) : Int) := by omega
    clear hm hkc e hfr HB HL
    go_upto_region 9 with (fail)
    rw [show (((((wc.setCell ⟨gL,a.n * 5,none⟩ (.int .i64 0)).setCell ⟨gL,a.n * 5 + 1,none⟩ (.int .i64 (-1))).setCell ⟨gL,a.n * 5 + 2,none⟩ (.int .i64 0)).setCell ⟨gL,a.n * 5 + 3,none⟩ (.int .i64 0)).setCell ⟨gL,a.n * 5 + 4,none⟩ (.bool false)) = setF wc gL a.n fFree from rfl]
    clear c0 f0 f1 f2 f3 f4 fz HK1 HFR HM HKC
    generalize setF wc gL a.n fFree = w1 at *
    have HNW1 : Hid (∀ k,w1.heap.size ≤ k → G k) := fun k hk => HNW.out k (Nat.le_trans HKG.out.size hk)
    have c2 : w1.cell? ⟨m,2,none⟩ = some (.slice A a.Q.length c) := H1.out.c2
    obtain ⟨v2,w2,hr2,ho2,hg2⟩ := copy_idle (a := ⟨a.n + 1,upd (upd a.F a.n ⟨0,0,0,false⟩) a.n fFree,a.B,a.Q⟩) H1.out (Nat.le_trans HQL.out (by omega))
    have c2a : (w1.alloc (.cells #[] 3)).cell? ⟨m,2,none⟩ = some (.slice A a.Q.length c) := Lib.cell?_alloc_some _ c2
    clear c2
    have HR2 := hid hr2
    have HO2 := hid ho2
    have HG2 := hid hg2
    clear hr2 ho2 hg2
    go_wp2_with (first
     | (at_builtin;refine Lib.wpList_append_run _ rfl _ _ _ _ rfl _ _ rfl rfl _ _ (HR2.out _) ?_)
     | (at_builtin;refine wpList_append_one rfl _ _ 33 rfl w1.heap.size 3 (.int .i64 0) 8 Tryz.underlying33 infoI rfl _ a.Q.length _ rfl (World.ownsRow.alloc HO2.out _) w2.heap.size (.int .i64 (a.n : Int)) rfl (cell_new1 _ _ _) rfl (by have := HQL.out;unfold maxLen;omega) (by have := HQL.out;omega) (by have := HG2.out.size;simp;omega) ?_;intro g4 cap4 w4 hown hbel;have HOW4 := hid hown;have HG4 := hid (below_grow (HG2.out.trans ((Kept.refl _ w2).alloc _)) (Nat.le_refl _) hbel);clear hown hbel c2a;have e2 : w4.cell? ⟨m,2,none⟩ = some (.slice A a.Q.length c) := (H1.out.hd.kept HG4.out (fun x => x)).cell (i := 2) (by omega);have mz := (H1.out.hd.kept HG4.out (fun x => x)).frozen 2))
    obtain ⟨hs4,hc4,hA4⟩ := own_sl HOW4.out
    have H4 := hid (RMem.idle (a := ⟨a.n + 1,upd (upd a.F a.n ⟨0,0,0,false⟩) a.n fFree,a.B,a.Q⟩) H1.out HNW1.out HG4.out hs4 hc4 hA4)
    have HK4 : Hid (Kept G w1 (w4.setCell ⟨m,2,none⟩ (.slice (some ⟨g4,0,none⟩) (a.Q.length + 1) cap4))) := HG4.out.kept.trans ((kept_set _ _ _ _).mono fun k _ e => by subst e;exact H1.out.inG)
    clear hs4 hc4 hA4 e2 mz
    go_ret
    rw [← HADD.out]
    rw [← HADD.out] at HG'
    exact ⟨rfl,⟨HG'.out,_,_,_,_,_,H4.out⟩,HKG.out.trans HK4.out⟩
theorem radd_any (h : RAt w G m a) (hnew : ∀ k,w.heap.size ≤ k → G k) : Calls Tryz.prog 111 #[.pointer (some ⟨m,0,none⟩)] w (RPost G m w (.int .i64 a.addC) a.add) := by
 have hn := h.good.n
 have hle := spare_le (a := a)
 by_cases h32 : a.spare < 32
 ·have e1 : a.addC = (a.spare : Int) := by unfold Ar.addC;rw [if_pos h32]
  have e2 : a.add = a.addF a.spare := by unfold Ar.add;rw [if_pos h32]
  rw [e1,e2]
  by_cases h1 : a.spare < a.n
  ·exact radd_old h hnew h1
  ·have hs : a.spare = a.n := by omega
   rw [hs]
   exact radd_new h hnew hs (by omega)
 ·have e1 : a.addC = -1 := by unfold Ar.addC;rw [if_neg h32]
  have e2 : a.add = a := by unfold Ar.add;rw [if_neg h32]
  rw [e1,e2]
  exact (radd_full h (by omega) (by omega)).mono fun e w' ⟨h1,h2⟩ => ⟨h1,h2 ▸ h,h2 ▸ Kept.refl _ _⟩
def RNewPost (n : Nat) (w : World) (e : Ending) (w' : World) : Prop := e = .returned (.pointer (some ⟨w.heap.size,0,none⟩)) ∧ RAt w' (w.heap.size ≤ ·) w.heap.size (ArM.fresh n) ∧ Grow w w'
theorem rnew_good (n : Nat) (hn : n ≤ 32) : Calls Tryz.prog 51 #[.int .i64 (n : Int)] w (RNewPost n w) := by
 have hnz : (n : Int) ≤ 32 := by omega
 go_enter Tryz.func51,Tryz.ntmps51
 go_wp2
 have HA0 : Hid (RAt (w.alloc (.cells #[.slice none 0 0,.slice none 0 0,.slice none 0 0] 109)) (w.heap.size ≤ ·) w.heap.size (ArM.fresh 0)) := by
  refine ⟨good_fresh (by omega),.slice none 0 0,.slice none 0 0,none,0,fun _ => [],Row.of_blk (Blk.new w _ [.slice none 0 0,.slice none 0 0,.slice none 0 0]) rfl (fun i hi => ?_),.inl ⟨rfl,rfl⟩,.inl ⟨rfl,rfl⟩,fun x hx => absurd hx (by show ¬ x < 0;omega),Sl.nil _ _ _ _,⟨Nat.le_refl _,Nat.zero_le _⟩,fun x hx => (by cases hx),Nat.le_refl _,fun x hx => (by cases hx)⟩
  have : i = 0 ∨ i = 1 ∨ i = 2 := by omega
  rcases this with rfl | rfl | rfl <;> rfl
 have HG0 : Hid (Grow w (w.alloc (.cells #[.slice none 0 0,.slice none 0 0,.slice none 0 0] 109))) := (Kept.refl _ _).alloc _
 generalize w.alloc (.cells #[.slice none 0 0,.slice none 0 0,.slice none 0 0] 109) = w1 at HA0 HG0 ⊢
 obtain ⟨B,hB⟩ : ∃ B,B = w.heap.size := ⟨_,rfl⟩
 have HB := hid hB
 unfold RNewPost
 rw [← hB] at HA0 ⊢
 clear hB
 go_loopg [4] n (fun gx i wr => ∃ j : Nat,j + gx = n ∧ i = .int .i64 (j : Int) ∧ RAt wr (B ≤ ·) B (ArM.fresh j) ∧ Grow w wr)
 case atStart => exact ⟨0,by omega,rfl,HA0.out,HG0.out⟩
 case round =>
  obtain ⟨j,hg,rfl,har,hgr⟩ := hrel
  have HG := hid hg
  have HAR := hid har
  have HGR := hid hgr
  clear hg har hgr
  by_cases hj : j < n
  ·have hjz : (j : Int) < (n : Int) := by omega
   have HADD := hid (radd_any HAR.out fun k hk => by have h1 := HGR.out.size;have h2 := HB.out;omega)
   obtain ⟨e1,e2⟩ := fresh_add (n := j) (by omega)
   rw [e1,e2] at HADD
   clear e1 e2
   go_wp2_with (go_at_call 111;(with_reducible refine HADD.out.mono ?_);rintro e w2 ⟨rfl,ha,hk⟩;have HA2 := hid ha;have HK2 := hid hk;clear ha hk)
   go_roundg (gk - 1)
   case measure => have := HG.out;omega
   case rel => exact ⟨j + 1,by have := HG.out;omega,by go_num,HA2.out,HGR.out.then HK2.out fun k hk e => by have := HB.out;omega⟩
  ·obtain rfl : j = n := by have := HG.out;omega
   go_wp2
   go_ret
   unfold RNewPost
   rw [← HB.out]
   exact ⟨rfl,HAR.out,HGR.out⟩
end
end ArRefN
namespace RdF
open Go.ChangeShapes Go.WideShapes Go.ChangeAt Go.RowKit
open Mem Blk Cells Orow RfP RdS RdB Stages Trees
open MdM (Md)
open MdC (SAt)
open ArM (Ar)
open RfM (Pl)
section
variable {w w' u : World} {col c : Nat → Nat} {n N k s : Nat} {v : Value} {X : Md} {r : RefD.Rf} {D : Dev.Dv} {A : Ar} {a l : Nat} {L : List Nat}
structure Low (s : Nat) (col c : Nat → Nat) : Prop where
 old : ∀ i,i < s → c i = col i
 new : ∀ i,s ≤ i → c i ≤ 5
theorem Low.paint (h : Low s col c) {t : Nat} (ht : s ≤ t) {x : Nat} (hx : x ≤ 5) : Low s col (paint t x c) := ⟨fun i hi => by rw [paint_old (by omega)];exact h.old i hi,fun i hi => by
 by_cases e : i < t
 ·rw [paint_old e];exact h.new i hi
 ·rw [paint_new (by omega)];exact hx⟩
theorem Low.first (s : Nat) (col : Nat → Nat) {x : Nat} (hx : x ≤ 5) : Low s col (RfP.paint s x col) := ⟨fun i hi => paint_old hi,fun i hi => by rw [paint_new hi];exact hx⟩
def NewP (n N k : Nat) (w : World) (col : Nat → Nat) (e : Ending) (w' : World) : Prop := ∃ ρ c,e = .returned (.pointer (some ⟨ρ.m,0,none⟩)) ∧ RdP w' c ρ (RfM.fresh n N k) ∧ Low w.heap.size col c ∧ Grow w w'
theorem XAt.k0 (x : XAt w col 2 v X) (hk : Grow w w') (c : Nat) : XAt w' (paint w.heap.size c col) 2 v X := x.keep hk (fun _ _ f => f.elim) c
theorem DAt.k0 (x : DAt w col r D) (hk : Grow w w') (c : Nat) : DAt w' (paint w.heap.size c col) r D := x.keep hk (fun _ _ f => f.elim) c
theorem AAt.k0 (x : AAt w col a A) (hk : Grow w w') (c : Nat) : AAt w' (paint w.heap.size c col) a A := x.keep hk (fun _ _ f => f.elim) c
theorem LAt.k0 (x : LAt w col l L) (hk : Grow w w') (c : Nat) : LAt w' (paint w.heap.size c col) l L := x.keep hk (fun _ _ f => f.elim) c
theorem d_new (h : RefD.RefAt w' r D) (hl : ∀ k,RefD.POwn r k → w.heap.size ≤ k) : DAt w' (paint w.heap.size 3 col) r D := ⟨h,fun k hk => paint_new (hl k hk)⟩
theorem a_new (h : ArRefC.RAt w' (w.heap.size ≤ ·) a A) : AAt w' (paint w.heap.size 4 col) a A := rat_mono h fun k h1 h2 => ⟨h1,paint_new h2⟩
theorem l_new (w : World) : LAt (w.alloc (.cells #[.int .i64 32,.slice none 0 0] 97)) (paint w.heap.size 5 col) w.heap.size [] := by
 refine ⟨⟨none,0,Row.of_blk (Blk.new w _ [.int .i64 32,.slice none 0 0]) rfl fun i hi => ?_,Sl.nil _ _ _ _,⟨Nat.le_refl _,Nat.zero_le _⟩,fun x hx => absurd hx (Nat.lt_irrefl 0)⟩,fun h => ?_⟩
 ·have : i = 0 ∨ i = 1 := by omega
  rcases this with rfl | rfl <;> rfl
 ·exact h.2 (paint_new (Nat.le_refl _))
theorem new_end {x y z : Value} (hx : XAt u c 2 (.agg #[x,y,z]) (MdM.fresh n N)) (hd : DAt u c r (Dev.newS n)) (ha : AAt u c a (ArM.fresh k)) (hl : LAt u c l []) (hg : Grow w u) (hz : Low w.heap.size col c) :
  NewP n N k w col (.returned (.pointer (some ⟨u.heap.size,0,none⟩))) (u.alloc (.cells #[x,y,z,.pointer (some ⟨r.m,0,none⟩),.pointer (some ⟨a,0,none⟩),.pointer (some ⟨l,0,none⟩)] 55)) := by
 have hk : Grow u (u.alloc (.cells #[x,y,z,.pointer (some ⟨r.m,0,none⟩),.pointer (some ⟨a,0,none⟩),.pointer (some ⟨l,0,none⟩)] 55)) := (Kept.refl _ _).alloc _
 have hb := Blk.new u 55 [x,y,z,.pointer (some ⟨r.m,0,none⟩),.pointer (some ⟨a,0,none⟩),.pointer (some ⟨l,0,none⟩)]
 exact ⟨⟨u.heap.size,r,a,l⟩,paint u.heap.size 1 c,rfl,⟨⟨x,y,z,hb,XAt.k0 hx hk 1⟩,⟨DAt.k0 hd hk 1,AAt.k0 ha hk 1,LAt.k0 hl hk 1⟩,paint_new (Nat.le_refl _)⟩,hz.paint hg.size (by decide),hg.trans hk⟩
theorem new_bad (p q f : Int) (h : ¬ ((1 ≤ p ∧ p ≤ 48) ∧ 1 ≤ q ∧ q ≤ 6)) (w : World) : Calls Tryz.prog 16 #[.int .i64 p,.int .i64 q,.int .i64 f] w fun e w' => e = .returned (.pointer none) ∧ Grow w w' := by
 have HN : Hid (∀ w,Calls Tryz.prog 49 #[.int .i64 p,.int .i64 q] w (MdN.RZeroP w)) := fun w => MdN.rnew_bad p q w h
 clear h
 go_enter Tryz.func16,Tryz.ntmps16
 go_upto_region 2 with (go_at_call 49;(with_reducible refine (HN.out _).mono ?_);rintro e w1 ⟨rfl,hg⟩;have HG := hid hg;clear hg)
 have hb := Blk.new w1 50 [.slice none 0 0,.slice none 0 0,.slice none 0 0]
 have hg2 : Grow w1 (w1.alloc (.cells #[.slice none 0 0,.slice none 0 0,.slice none 0 0] 50)) := (Kept.refl _ _).alloc _
 have HG2 := hid (HG.out.trans hg2)
 generalize w1.alloc (.cells #[.slice none 0 0,.slice none 0 0,.slice none 0 0] 50) = w2 at hb HG2 ⊢
 have s0 := hb.cell 0
 simp only [List.getElem?_cons_zero] at s0
 clear hb hg2
 go_wp2
 go_ret
 exact ⟨rfl,HG2.out⟩
theorem new_few (n N : Nat) (h1 : 1 ≤ n) (h2 : n ≤ 48) (h3 : 1 ≤ N) (h4 : N ≤ 6) (f : Int) (h : ¬ (1 ≤ f ∧ f ≤ 32)) (w : World) : Calls Tryz.prog 16 #[.int .i64 (n : Int),.int .i64 (N : Int),.int .i64 f] w fun e w' => e = .returned (.pointer none) ∧ Grow w w' := by
 have HN : Hid (∀ w,Calls Tryz.prog 49 #[.int .i64 (n : Int),.int .i64 (N : Int)] w (MdN.RNewP n N w)) := fun w => MdN.rnew_any n N h1 h2 h3 h4 w
 have hz : ((n : Int) == 0) = false := by rw [beq_eq_false_iff_ne];omega
 by_cases hf : f < 1
 all_goals
  first
  | (have hf2 : f > 32 := by omega)
  | skip
  clear h h1 h2 h3 h4
  go_enter Tryz.func16,Tryz.ntmps16
  go_upto_region 2 with (go_at_call 49;(with_reducible refine (HN.out _).mono ?_);rintro e w1 ⟨v,rfl,hs,hg⟩;obtain ⟨gT,cT,gB,cB,gH,cH,q0,p0,rfl,_⟩ := hs.mem;unfold MdC.sval;have HG := hid hg;clear hg hs)
  have hb := Blk.new w1 50 [.slice (some ⟨gT,0,none⟩) n cT,.slice (some ⟨gB,0,none⟩) n cB,.slice (some ⟨gH,0,none⟩) N cH]
  have hg2 : Grow w1 (w1.alloc (.cells #[.slice (some ⟨gT,0,none⟩) n cT,.slice (some ⟨gB,0,none⟩) n cB,.slice (some ⟨gH,0,none⟩) N cH] 50)) := (Kept.refl _ _).alloc _
  have HG2 := hid (HG.out.trans hg2)
  simp only [MdM.fresh]
  generalize w1.alloc (.cells #[.slice (some ⟨gT,0,none⟩) n cT,.slice (some ⟨gB,0,none⟩) n cB,.slice (some ⟨gH,0,none⟩) N cH] 50) = w2 at hb HG2 ⊢
  have s0 := hb.cell 0
  simp only [List.getElem?_cons_zero] at s0
  clear hb hg2
  go_wp2
  go_ret
  exact ⟨rfl,HG2.out⟩
set_option maxRecDepth 100000 in
set_option maxHeartbeats 4000000 in
theorem new_good (n N k : Nat) (h1 : 1 ≤ n) (h2 : n ≤ 48) (h3 : 1 ≤ N) (h4 : N ≤ 6) (h5 : 1 ≤ k) (h6 : k ≤ 32) (w : World) (col : Nat → Nat) : Calls Tryz.prog 16 #[.int .i64 (n : Int),.int .i64 (N : Int),.int .i64 (k : Int)] w (NewP n N k w col) := by
 have HN : Hid (∀ w,Calls Tryz.prog 49 #[.int .i64 (n : Int),.int .i64 (N : Int)] w (MdN.RNewP n N w)) := fun w => MdN.rnew_any n N h1 h2 h3 h4 w
 have HCD : Hid (∀ w,Calls Tryz.prog 50 #[.int .i64 (n : Int)] w (RefN.RNewPost w n)) := fun w => RefN.rnew_good n h1 h2
 have HCA : Hid (∀ w,Calls Tryz.prog 51 #[.int .i64 (k : Int)] w (ArRefN.RNewPost k w)) := fun w => ArRefN.rnew_good k h6
 have hz : ((n : Int) == 0) = false := by rw [beq_eq_false_iff_ne];omega
 have hf1 : ¬ (k : Int) < 1 := by omega
 have hf2 : ¬ (k : Int) > 32 := by omega
 clear h1 h2 h3 h4 h5 h6
 go_enter Tryz.func16,Tryz.ntmps16
 go_upto_region 2 with (go_at_call 49;(with_reducible refine (HN.out _).mono ?_);rintro e w1 ⟨v,rfl,hs,hg⟩;have HX0 := hid (XAt.fresh (col := col) hs 2);obtain ⟨gT,cT,gB,cB,gH,cH,q0,p0,rfl,_⟩ := hs.mem;unfold MdC.sval at HX0 ⊢;have HG := hid hg;clear hg hs)
 simp only [show (MdM.fresh n N).n = n from rfl,show (MdM.fresh n N).N = N from rfl] at HX0 ⊢
 have hb := Blk.new w1 50 [.slice (some ⟨gT,0,none⟩) n cT,.slice (some ⟨gB,0,none⟩) n cB,.slice (some ⟨gH,0,none⟩) N cH]
 have hg2 : Grow w1 (w1.alloc (.cells #[.slice (some ⟨gT,0,none⟩) n cT,.slice (some ⟨gB,0,none⟩) n cB,.slice (some ⟨gH,0,none⟩) N cH] 50)) := (Kept.refl _ _).alloc _
 have HX1 := hid (XAt.k0 HX0.out hg2 0)
 have HG2 := hid (HG.out.trans hg2)
 have HZ1 := hid ((Low.first w.heap.size col (x := 2) (by decide)).paint HG.out.size (x := 0) (by decide))
 generalize paint w1.heap.size 0 (paint w.heap.size 2 col) = c1 at HX1 HZ1
 generalize w1.alloc (.cells #[.slice (some ⟨gT,0,none⟩) n cT,.slice (some ⟨gB,0,none⟩) n cB,.slice (some ⟨gH,0,none⟩) N cH] 50) = w2 at hb HG2 HX1 ⊢
 generalize w1.heap.size = b7 at hb ⊢
 have s0 := hb.cell 0
 have s1 := hb.cell 1
 have s2 := hb.cell 2
 simp only [ZeZ,ZeS] at s0 s1 s2
 clear hb hg2 HX0
 go_upto_region 4 with (fail)
 have g0 : Grow w2 w2.drew := Kept.drew' w2
 have q0' := up_cell (F := fun _ => False) (w := w2.drew) (g0.cellN s0 id) id
 have q1' := up_cell (F := fun _ => False) (w := w2.drew) (g0.cellN s1 id) id
 have q2' := up_cell (F := fun _ => False) (w := w2.drew) (g0.cellN s2 id) id
 refine wp_region_tree Grow Grow (kept_refl _) (kept_trans _) (kept_refl _) (kept_trans _) (fun _ _ h => h) [] (.two true [0,1,3,5] 2 (.two true [] 4 (.one true [] 6 (.one true [7] 8 (.last true [9]))) 6 (.one true [] 4 (.one true [7] 8 (.last true [9])))) 6 (.one true [] 2 (.one true [] 4 (.one true [7] 8 (.last true [9]))))) (by kernel_rfl) (by kernel_rfl) ?_
 have HX2 := hid (XAt.k0 HX1.out g0 0)
 have HG3 := hid (HG2.out.trans g0)
 have HZ2 := hid (HZ1.out.paint HG2.out.size (x := 0) (by decide))
 generalize paint w2.heap.size 0 c1 = c2 at HX2 HZ2
 clear s0 s1 s2 g0 HX1 HG2 HZ1
 generalize w2.drew = u0 at *
 refine tr_twoE fun K1 hK1 K2 hK2 => ?_
 simp only [sel,ZmC,ZmN,ZgS,ZgZ]
 repeat (go_big_quiet_step (fail))
 refine wpQuiet_nil ?_
 clear q0' q1' q2'
 refine ⟨?_,?_⟩
 ·go_wp2_with (go_at_call 50;(with_reducible refine (HCD.out u0).mono ?_);rintro e u1 ⟨r,rfl,hd,hlo,hgx⟩;have HGX := hid hgx;have HD1 := hid (d_new (col := c2) hd hlo);clear hd hlo hgx)
  refine norm_up (hK1 _ _ (Lr_early (by decide) HGX.out) ?_)
  clear hK1 hK2 K1 K2
  have HX3 := hid (XAt.k0 HX2.out HGX.out 3)
  have HG4 := hid (HG3.out.trans HGX.out)
  have HZ3 := hid (HZ2.out.paint HG3.out.size (x := 3) (by decide))
  generalize paint u0.heap.size 3 c2 = c3 at *
  clear HGX
  refine tr_twoE fun K1 hK1 K2 hK2 => ?_
  simp only [sel,ZmC,ZmN,ZgS,ZgZ]
  repeat (go_big_quiet_step (fail))
  refine wpQuiet_nil ?_
  refine ⟨?_,?_⟩
  ·go_wp2_with (go_at_call 51;(with_reducible refine (HCA.out u1).mono ?_);rintro e u2 ⟨rfl,ha,hgx⟩;have HGX := hid hgx;have HA2 := hid (a_new (col := c3) ha);clear ha hgx)
   refine norm_up (hK1 _ _ (Lr_early (by decide) HGX.out) ?_)
   clear hK1 hK2 K1 K2
   have HD2 := hid (DAt.k0 HD1.out HGX.out 4)
   have HX4 := hid (XAt.k0 HX3.out HGX.out 4)
   have HG5 := hid (HG4.out.trans HGX.out)
   have HZ4 := hid (HZ3.out.paint HG4.out.size (x := 4) (by decide))
   generalize paint u1.heap.size 4 c3 = c4 at *
   generalize u1.heap.size = a at *
   clear HGX
   refine tr_oneE fun K hK => ?_
   simp only [sel,ZmC,ZmN,ZgS,ZgZ]
   repeat (go_big_quiet_step (fail))
   refine wpQuiet_nil ?_
   go_wp2
   have hgx : Grow u2 (u2.alloc (.cells #[.int .i64 32,.slice none 0 0] 97)) := (Kept.refl _ _).alloc _
   have HGX := hid hgx
   have HL3 := hid (l_new (col := c4) u2)
   refine norm_up (hK _ _ (Lr_early (by decide) HGX.out) ?_)
   clear hK K
   have HA3 := hid (AAt.k0 HA2.out HGX.out 5)
   have HD3 := hid (DAt.k0 HD2.out HGX.out 5)
   have HX5 := hid (XAt.k0 HX4.out HGX.out 5)
   have HG6 := hid (HG5.out.trans HGX.out)
   have HZ5 := hid (HZ4.out.paint HG5.out.size (x := 5) (by decide))
   generalize hv3 : u2.alloc (.cells #[.int .i64 32,.slice none 0 0] 97) = u3 at *
   generalize paint u2.heap.size 5 c4 = c5 at *
   generalize u2.heap.size = l at *
   clear HGX
   refine tr_oneE fun K hK => ?_
   simp only [sel,ZmC,ZmN,ZgS,ZgZ]
   repeat (go_big_quiet_step (fail))
   refine wpQuiet_nil ?_
   go_wp2
   refine norm_up (hK _ _ (Lr_early (by decide) ((Kept.refl _ _).alloc _)) ?_)
   clear hK K
   refine tr_last fun K hK => ?_
   simp only [sel,ZmC,ZmN,ZgS,ZgZ]
   repeat (go_big_quiet_step (fail))
   refine wpQuiet_nil (hK _ ?_)
   clear hK K
   go_wp2
   go_ret
   exact new_end HX5.out HD3.out HA3.out HL3.out HG6.out HZ5.out
  ·go_wp2
   have hgx : Grow u1 (u1.alloc (.cells #[.int .i64 32,.slice none 0 0] 97)) := (Kept.refl _ _).alloc _
   have HGX := hid hgx
   have HL2 := hid (l_new (col := c3) u1)
   refine norm_up (hK2 _ _ (Lr_early (by decide) HGX.out) ?_)
   clear hK1 hK2 K1 K2
   have HD2 := hid (DAt.k0 HD1.out HGX.out 5)
   have HX4 := hid (XAt.k0 HX3.out HGX.out 5)
   have HG5 := hid (HG4.out.trans HGX.out)
   have HZ4 := hid (HZ3.out.paint HG4.out.size (x := 5) (by decide))
   generalize hv2 : u1.alloc (.cells #[.int .i64 32,.slice none 0 0] 97) = u2 at *
   generalize paint u1.heap.size 5 c3 = c4 at *
   generalize u1.heap.size = l at *
   clear HGX
   refine tr_oneE fun K hK => ?_
   simp only [sel,ZmC,ZmN,ZgS,ZgZ]
   repeat (go_big_quiet_step (fail))
   refine wpQuiet_nil ?_
   go_wp2_with (go_at_call 51;(with_reducible refine (HCA.out u2).mono ?_);rintro e u3 ⟨rfl,ha,hgx⟩;have HGX := hid hgx;have HA3 := hid (a_new (col := c4) ha);clear ha hgx)
   refine norm_up (hK _ _ (Lr_early (by decide) HGX.out) ?_)
   clear hK K
   have HD3 := hid (DAt.k0 HD2.out HGX.out 4)
   have HL3 := hid (LAt.k0 HL2.out HGX.out 4)
   have HX5 := hid (XAt.k0 HX4.out HGX.out 4)
   have HG6 := hid (HG5.out.trans HGX.out)
   have HZ5 := hid (HZ4.out.paint HG5.out.size (x := 4) (by decide))
   generalize paint u2.heap.size 4 c4 = c5 at *
   generalize u2.heap.size = a at *
   clear HGX
   refine tr_oneE fun K hK => ?_
   simp only [sel,ZmC,ZmN,ZgS,ZgZ]
   repeat (go_big_quiet_step (fail))
   refine wpQuiet_nil ?_
   go_wp2
   refine norm_up (hK _ _ (Lr_early (by decide) ((Kept.refl _ _).alloc _)) ?_)
   clear hK K
   refine tr_last fun K hK => ?_
   simp only [sel,ZmC,ZmN,ZgS,ZgZ]
   repeat (go_big_quiet_step (fail))
   refine wpQuiet_nil (hK _ ?_)
   clear hK K
   go_wp2
   go_ret
   exact new_end HX5.out HD3.out HA3.out HL3.out HG6.out HZ5.out
 ·go_wp2
  have hgx : Grow u0 (u0.alloc (.cells #[.int .i64 32,.slice none 0 0] 97)) := (Kept.refl _ _).alloc _
  have HGX := hid hgx
  have HL1 := hid (l_new (col := c2) u0)
  refine norm_up (hK2 _ _ (Lr_early (by decide) HGX.out) ?_)
  clear hK1 hK2 K1 K2
  have HX3 := hid (XAt.k0 HX2.out HGX.out 5)
  have HG4 := hid (HG3.out.trans HGX.out)
  have HZ3 := hid (HZ2.out.paint HG3.out.size (x := 5) (by decide))
  generalize hv1 : u0.alloc (.cells #[.int .i64 32,.slice none 0 0] 97) = u1 at *
  generalize paint u0.heap.size 5 c2 = c3 at *
  generalize u0.heap.size = l at *
  clear HGX
  refine tr_oneE fun K hK => ?_
  simp only [sel,ZmC,ZmN,ZgS,ZgZ]
  repeat (go_big_quiet_step (fail))
  refine wpQuiet_nil ?_
  go_wp2_with (go_at_call 50;(with_reducible refine (HCD.out u1).mono ?_);rintro e u2 ⟨r,rfl,hd,hlo,hgx⟩;have HGX := hid hgx;have HD2 := hid (d_new (col := c3) hd hlo);clear hd hlo hgx)
  refine norm_up (hK _ _ (Lr_early (by decide) HGX.out) ?_)
  clear hK K
  have HL2 := hid (LAt.k0 HL1.out HGX.out 3)
  have HX4 := hid (XAt.k0 HX3.out HGX.out 3)
  have HG5 := hid (HG4.out.trans HGX.out)
  have HZ4 := hid (HZ3.out.paint HG4.out.size (x := 3) (by decide))
  generalize paint u1.heap.size 3 c3 = c4 at *
  clear HGX
  refine tr_oneE fun K hK => ?_
  simp only [sel,ZmC,ZmN,ZgS,ZgZ]
  repeat (go_big_quiet_step (fail))
  refine wpQuiet_nil ?_
  go_wp2_with (go_at_call 51;(with_reducible refine (HCA.out u2).mono ?_);rintro e u3 ⟨rfl,ha,hgx⟩;have HGX := hid hgx;have HA3 := hid (a_new (col := c4) ha);clear ha hgx)
  refine norm_up (hK _ _ (Lr_early (by decide) HGX.out) ?_)
  clear hK K
  have HD3 := hid (DAt.k0 HD2.out HGX.out 4)
  have HL3 := hid (LAt.k0 HL2.out HGX.out 4)
  have HX5 := hid (XAt.k0 HX4.out HGX.out 4)
  have HG6 := hid (HG5.out.trans HGX.out)
  have HZ5 := hid (HZ4.out.paint HG5.out.size (x := 4) (by decide))
  generalize paint u2.heap.size 4 c4 = c5 at *
  generalize u2.heap.size = a at *
  clear HGX
  refine tr_oneE fun K hK => ?_
  simp only [sel,ZmC,ZmN,ZgS,ZgZ]
  repeat (go_big_quiet_step (fail))
  refine wpQuiet_nil ?_
  go_wp2
  refine norm_up (hK _ _ (Lr_early (by decide) ((Kept.refl _ _).alloc _)) ?_)
  clear hK K
  refine tr_last fun K hK => ?_
  simp only [sel,ZmC,ZmN,ZgS,ZgZ]
  repeat (go_big_quiet_step (fail))
  refine wpQuiet_nil (hK _ ?_)
  clear hK K
  go_wp2
  go_ret
  exact new_end HX5.out HD3.out HA3.out HL3.out HG6.out HZ5.out
end
end RdF
namespace IntsC
open Go.ChangeShapes Go.WideShapes Go.ChangeAt Go.RowKit
open Mem Blk Stages
set_option maxHeartbeats 1000000 in
theorem ints_true {w : World} (A A' : Option Addr) (n c c' B B' : Nat) (zs : List Int) (hn : n ≤ 100000) (h : Sl w B .i64 A n zs) (h' : Sl w B' .i64 A' n zs) :
  Calls Tryz.prog 67 #[.slice A n c,.slice A' n c'] w fun e w' => e = .returned (.bool true) ∧ Grow w w' := by
 have H := hid h
 have H' := hid h'
 have hnz : (n : Int) ≤ 100000 := by omega
 clear h h'
 go_enter Tryz.func67,Tryz.ntmps67
 go_wp2
 go_loopg [5] n (fun gx i wr => ∃ j : Nat,j + gx = n ∧ i = .int .i64 (j : Int) ∧ Grow w wr)
 case atStart => exact ⟨0,by omega,rfl,Kept.refl _ _⟩
 case round =>
  obtain ⟨j,hg,rfl,hgr⟩ := hrel
  have HG := hid hg
  have HGR := hid hgr
  clear hg hgr
  by_cases hj : j < n
  ·have hjz : (j : Int) < (n : Int) := by omega
   obtain ⟨b,o,rfl,_,hc⟩ := H.out.at_ (by omega)
   obtain ⟨b',o',rfl,_,hc'⟩ := H'.out.at_ (by omega)
   have r1 := hc j hj
   have r2 := hc' j hj
   generalize zs.getD j 0 = v at *
   have r1' := HGR.out.cellN r1 id
   have r2' := HGR.out.cellN r2 id
   have q1 := up_cell (F := fun _ => False) (w := wr.drew) r1' id
   have q2 := up_cell (F := fun _ => False) (w := wr.drew) r2' id
   clear hc hc' r1 r2 r1' r2'
   go_upto_region 6 with (fail)
   refine wp_region_stages Grow (kept_refl _) (kept_trans _) [] [0,1,2,3,4,5,6,7,8] (by kernel_rfl) (by kernel_rfl) ?_
   simp only [selSt,sel,ZmC,ZmN,ZgS,ZgZ]
   refine st_nil fun K2 hK2 => ?_
   repeat (go_big_quiet_step (fail))
   refine wpQuiet_nil (hK2 _ ?_)
   clear hK2 K2 q1 q2
   go_wp2
   go_roundg (n - (j + 1))
   case measure => have := HG.out;omega
   case rel => exact ⟨j + 1,by omega,by go_num,HGR.out.drew⟩
  ·have hjN : j = n := by have := HG.out;omega
   subst hjN
   go_wp2
   go_ret
   exact ⟨rfl,HGR.out⟩
end IntsC
namespace RdG
open Go.ChangeShapes Go.WideShapes Go.ChangeAt Go.RowKit
open Mem Blk Cells Orow RfP RdS RdA RdB RdC Stages
open MdM (Md)
open MdC (SAt)
open ArM (Ar Fr)
open ArC (FR)
open RgV (thereL thereL_le orderL orderL_take orderL_len OwnInts)
open RgH (infoI)
open RefD (strV)
open DevY (Fr)
def IntsP (w : World) (zs : List Int) (e : Ending) (w' : World) : Prop := ∃ A c,e = .returned (.slice A zs.length c) ∧ Sl w' w'.heap.size .i64 A zs.length zs ∧ Grow w w'
section
variable {w w' : World} {col : Nat → Nat} {ρ : Rn} {p : RfM.Pl} {G : Nat → Prop} {X : Md} {v : Value} {zs : List Int} {f : Nat} {args : Array Value}
theorem own_p (h : Calls Tryz.prog f args w (OwnInts w zs)) : Calls Tryz.prog f args w (IntsP w zs) := h.mono fun e w' ⟨v,he,ho,hg⟩ => by
 obtain ⟨A,c,rfl,hs⟩ := Sl.of_row1 ho
 exact ⟨A,c,he,hs,hg⟩
theorem of_p (h : Calls Tryz.prog f args w (DevY.IntsOf w zs)) : Calls Tryz.prog f args w (IntsP w zs) := h.mono fun e w' ⟨A,n,c,he,hs,_,hg⟩ => by
 have hn := hs.len
 subst hn
 exact ⟨A,c,he,hs,hg⟩
set_option maxRecDepth 100000 in
theorem rpages_any (h : SAt w G v X) : Calls Tryz.prog 69 #[v] w (IntsP w (thereL X.T X.n)) := by
 have hn := h.good.n.2
 obtain ⟨gT,cT,gB,cB,gH,cH,q0,p0,rfl,hm⟩ := h.mem
 unfold MdC.sval
 have hb := Blk.new w 50 [.slice (some ⟨gT,0,none⟩) X.n cT,.slice (some ⟨gB,0,none⟩) X.n cB,.slice (some ⟨gH,0,none⟩) X.N cH]
 have hg : Grow w (w.alloc (.cells #[.slice (some ⟨gT,0,none⟩) X.n cT,.slice (some ⟨gB,0,none⟩) X.n cB,.slice (some ⟨gH,0,none⟩) X.N cH] 50)) := (Kept.refl _ _).alloc _
 have HB0 := hid hb
 have HG0 := hid hg
 have HT := hid (hm.tb.kept hg id)
 clear h hm hb hg
 go_enter Tryz.func69,Tryz.ntmps69
 go_upto_region 1 with (fail)
 generalize w.alloc (.cells #[.slice (some ⟨gT,0,none⟩) X.n cT,.slice (some ⟨gB,0,none⟩) X.n cB,.slice (some ⟨gH,0,none⟩) X.N cH] 50) = w0 at *
 generalize w.heap.size = b0 at *
 go_wp2
 go_loopg [3,4] X.n (fun gx v i wr => ∃ j : Nat,j + gx = X.n ∧ i = .int .i64 (j : Int) ∧ wr.ownsRow w0.heap.size 3 1 v (thereL X.T j).length ((thereL X.T j).map (Value.int .i64)) ∧ Below w0.heap.size w0 wr)
 case atStart => exact ⟨0,by omega,rfl,World.ownsRow_nil _ _ _ _,Below.refl _ _⟩
 case round =>
  obtain ⟨j,hg,rfl,hown,hbel⟩ := hrel
  have HOW := hid hown
  have HB := hid hbel
  have HG := hid hg
  have HWR : Hid (Grow w0 wr) := Kept.of_below hbel
  have c0 := (HB0.out.grow HWR.out).cell 0
  simp only [List.getElem?_cons_zero] at c0
  by_cases hj : j < X.n
  ·have hjz : (j : Int) < (X.n : Int) := by omega
   have t3 := OR.cell (HT.out.kept HWR.out id) (i := j) (by omega)
   unfold MdC.tcell at t3
   have hle := thereL_le X.T j
   have hws : w0.heap.size ≤ wr.heap.size := hbel.size
   clear hown hbel hg
   cases ht : X.T j with
   | false =>
    have HE : Hid (thereL X.T (j + 1) = thereL X.T j) := by unfold Hid;rw [thereL,ht];rfl
    rw [ht] at t3
    clear ht
    go_wp2
    go_roundg (gk - 1)
    case measure => have := HG.out;omega
    case rel => exact ⟨j + 1,by have := HG.out;omega,by go_num,by rw [HE.out];exact HOW.out,HB.out⟩
   | true =>
    have HE : Hid (thereL X.T (j + 1) = thereL X.T j ++ [(j : Int)]) := by unfold Hid;rw [thereL,ht];rfl
    rw [ht] at t3
    clear ht
    generalize thereL X.T j = l at *
    go_wp2_with (at_builtin;refine wpList_append_one rfl (.tmp 17) (.tmp 19) 33 rfl w0.heap.size 3 (.int .i64 0) 8 Tryz.underlying33 infoI rfl _ l.length _ rfl (World.ownsRow.alloc HOW.out _) wr.heap.size (.int .i64 (j : Int)) rfl (cell_new1 _ _ _) rfl (by unfold maxLen;omega) (by omega) (by simp;omega) ?_;intro g cap w3 hown hbel;have HOW3 := hid hown;have HBW3 := hid hbel;clear hown hbel)
    go_roundg (gk - 1)
    case measure => have := HG.out;omega
    case rel => exact ⟨j + 1,by have := HG.out;omega,by go_num,by rw [HE.out];simpa using HOW3.out,HB.out.trans (((Below.refl _ wr).alloc hws _).trans HBW3.out)⟩
  ·have hjN : j = X.n := by omega
   subst hjN
   obtain ⟨P,c,rfl,hs⟩ := Sl.of_row1 hown
   have HS := hid hs
   clear hown hbel hg hs
   go_wp2
   try rw [Exit.noGoto_ret]
   go_ret
   exact ⟨P,c,rfl,HS.out,HG0.out.trans HWR.out⟩
set_option maxRecDepth 100000 in
set_option maxHeartbeats 1000000 in
theorem rorder_any (x : RdP w col ρ p) (h0 : 0 < p.A.n) (hn : p.A.n ≤ 32) (hu : ∀ f ∈ p.L,f < p.A.n) (hL : p.L.length ≤ 32) : Calls Tryz.prog 68 #[.pointer (some ⟨ρ.m,0,none⟩)] w (IntsP w (orderL p.A.F p.L)) := by
 obtain ⟨gF,cF,gB,cB,a0,_,hfr,_,_⟩ := parts x h0
 obtain ⟨AL,cL,l1,hsl⟩ := orders x
 have HC4 := hid x.c4
 have HC5 := hid x.c5
 have HA0 := hid a0
 have HL1 := hid l1
 have HFR := hid hfr
 have HSL := hid hsl
 have HU := hid hu
 clear x a0 l1 hfr hsl hu
 go_enter Tryz.func68,Tryz.ntmps68
 go_wp2
 go_loopg [3,4] p.L.length (fun gx v i wr => ∃ j : Nat,j + gx = p.L.length ∧ i = .int .i64 (j : Int) ∧ wr.ownsRow w.heap.size 3 1 v (orderL p.A.F (p.L.take j)).length ((orderL p.A.F (p.L.take j)).map (Value.int .i64)) ∧ Grow w wr)
 case atStart => exact ⟨0,by omega,rfl,World.ownsRow_nil _ _ _ _,Kept.refl _ _⟩
 case round =>
  obtain ⟨j,hg,rfl,hown,hgr⟩ := hrel
  have HOW := hid hown
  have HWR := hid hgr
  have HG := hid hg
  have c5 := hgr.cellN HC5.out id
  have l1 := hgr.cellN HL1.out id
  by_cases hj : j < p.L.length
  ·have hjz : (j : Int) < (p.L.length : Int) := by omega
   have hlz : (p.L.length : Int) ≤ 32 := by omega
   obtain ⟨b,off,rfl,_,hcs⟩ := HSL.out.at_ (by omega)
   have r1 := hcs j hj
   rw [ListM.ints_get] at r1
   have hm : p.L.getD j 0 ∈ p.L := by
    rw [List.getD_eq_getElem?_getD,List.getElem?_eq_getElem hj]
    exact List.getElem_mem _
   have hfn := HU.out _ hm
   have k1 := FR.c1 HFR.out hfn
   have HE := hid (orderL_take (F := p.A.F) hj)
   have hle : (orderL p.A.F (p.L.take j)).length ≤ 32 := by rw [orderL_len,List.length_take];omega
   have hws : w.heap.size ≤ wr.heap.size := hgr.size
   generalize p.L.getD j 0 = f at *
   have hfz : (f : Int) < (p.A.n : Int) := by omega
   have hnz : (p.A.n : Int) ≤ 32 := by omega
   generalize orderL p.A.F (p.L.take j) = l at *
   generalize (p.A.F f).pg = pg at *
   have up := fun (pp : Addr) (v : Value) (h : w.cell? pp = some v) => up_cell (F := fun k => w.heap.size ≤ k) (w := wr.drew) (p := pp) (v := v) (HWR.out.drew.cellN h id) (Nat.not_le.2 (block_lt_of_cell h))
   have q4 := up _ _ HC4.out
   have q5 := up _ _ HC5.out
   have q0 := up _ _ HA0.out
   have q1 := up _ _ HL1.out
   have qe := up _ _ r1
   have qf := up _ _ k1
   clear up hown hg hcs hm r1 k1 hgr
   go_upto_region 5 with (fail)
   refine wp_region_stages (Kept fun k => w.heap.size ≤ k) (kept_refl _) (kept_trans _) [([0,1,2,3,4,5,6,7,8,9,10,11,12,13,14,15,16,17,18,19,20],21),([],22)] [23] (by kernel_rfl) (by kernel_rfl) ?_
   simp only [selSt,sel,ZmC,ZmN,ZgS,ZgZ]
   refine st_cons fun K1 hK1 => ?_
   repeat (go_big_quiet_step (fail))
   refine wpQuiet_nil ?_
   clear q4 q5 q0 q1 qe qf
   go_wp2
   have hga : Kept (fun k => w.heap.size ≤ k) wr.drew (wr.alloc (.cells #[.int .i64 pg] 3)).drew := (Kept.refl _ wr.drew).alloc (.cells #[.int .i64 pg] 3)
   have hoa : (wr.alloc (.cells #[.int .i64 pg] 3)).drew.ownsRow w.heap.size 3 1 u3 l.length (l.map (Value.int .i64)) := World.ownsRow.alloc HOW.out (.cells #[.int .i64 pg] 3)
   have hca : (wr.alloc (.cells #[.int .i64 pg] 3)).drew.cell? ⟨wr.heap.size,0,none⟩ = some (.int .i64 pg) := cell_new1 wr (.int .i64 pg) _
   have hsa : wr.heap.size ≤ (wr.alloc (.cells #[.int .i64 pg] 3)).drew.heap.size := ((Kept.refl (fun _ => False) wr).alloc (.cells #[.int .i64 pg] 3)).size
   have HOA := hid hoa
   have HCA := hid hca
   have HGA := hid hga
   have hws2 := Nat.le_trans hws hsa
   clear hoa hca hga hsa
   generalize (wr.alloc (.cells #[.int .i64 pg] 3)).drew = ua at *
   generalize wr.heap.size = ga at *
   refine norm_up (hK1 _ _ HGA.out (st_cons fun K2 hK2 => ?_))
   clear hK1 K1
   repeat (go_big_quiet_step (fail))
   refine wpQuiet_nil ?_
   go_wp2_with (at_builtin;refine wpList_append_one rfl (.tmp 17) (.tmp 38) 33 rfl w.heap.size 3 (.int .i64 0) 8 Tryz.underlying33 infoI rfl _ l.length _ rfl HOA.out ga (.int .i64 pg) rfl HCA.out rfl (by unfold maxLen;omega) (by omega) hws2 ?_;intro g cap w3 hown hbel;have HOW3 := hid hown;have HBW3 := hid hbel;clear hown hbel)
   have hk3 : Kept (fun k => w.heap.size ≤ k) ua w3 := ⟨HBW3.out.os,HBW3.out.tape,HBW3.out.output,HBW3.out.size,fun k _ hne => HBW3.out.block k (Nat.lt_of_not_le hne)⟩
   refine norm_up (hK2 _ _ hk3 (st_nil fun K3 hK3 => ?_))
   clear hK2 K2
   repeat (go_big_quiet_step (fail))
   refine wpQuiet_nil (hK3 _ ?_)
   clear hK3 K3
   go_wp2
   go_roundg (gk - 1)
   case measure => have := HG.out;omega
   case rel => exact ⟨j + 1,by have := HG.out;omega,by go_num,by rw [HE.out];simpa using HOW3.out,HWR.out.drew.then (HGA.out.trans hk3) fun i hi e => absurd hi (Nat.not_lt.2 e)⟩
  ·have hjN : j = p.L.length := by omega
   subst hjN
   rw [List.take_length] at hown
   obtain ⟨P,c,rfl,hs⟩ := Sl.of_row1 hown
   have HS := hid hs
   clear hown hg hs hgr
   go_wp2
   try rw [Exit.noGoto_ret]
   go_ret
   exact ⟨P,c,rfl,HS.out,HWR.out⟩
end
section
theorem texts_true {w : World} (g A n c c' : Nat) (f : Nat → Value) (z : Nat → List Int) (hn : n ≤ 48) (h : Dev.Row w g n f) (hf : ∀ p,p < n → Fr g w (f p) (z p)) (hA : Dev.Row w A n fun p => strV (z p)) :
  Calls Tryz.prog 71 #[.slice (some ⟨g,0,none⟩) n c,.slice (some ⟨A,0,none⟩) n c'] w fun e w' => e = .returned (.bool true) ∧ Grow w w' := by
 have H := hid h
 have HF := hid hf
 have HA := hid hA
 have hnz : (n : Int) ≤ 48 := by omega
 clear h hf hA
 go_enter Tryz.func71,Tryz.ntmps71
 go_wp2
 go_loopg [5] n (fun gx i wr => ∃ j : Nat,j + gx = n ∧ i = .int .i64 (j : Int) ∧ Grow w wr)
 case atStart => exact ⟨0,by omega,rfl,Kept.refl _ _⟩
 case round =>
  obtain ⟨j,hg,rfl,hgr⟩ := hrel
  have HGR := hid hgr
  have HG := hid hg
  clear hg hgr
  by_cases hj : j < n
  ·have hjz : (j : Int) < (n : Int) := by omega
   have r1 := (H.out.grow HGR.out).cell (i := j) hj
   have r2 := (HA.out.grow HGR.out).cell (i := j) hj
   obtain ⟨b,cb,hb,_,_,_,hrow,hl,_⟩ := HF.out j hj
   rw [hb] at r1
   simp only [strV] at r2
   have q1 := up_cell (F := fun _ => False) (w := wr.drew) r1 id
   have q2 := up_cell (F := fun _ => False) (w := wr.drew) r2 id
   have q3 := up_run (F := fun _ => False) (P := Tryz.prog) (w := wr.drew) fun w' hk => (Dev.Sl.of_row0 (B := w'.heap.size) (hrow.grow (HGR.out.trans ((Kept.drew' wr).trans hk))) hl (hrow.grow (HGR.out.trans ((Kept.drew' wr).trans hk))).lt).str 22 9 5 Tryz.underlying22 Tryz.underlying5 Tryz.underlying9 cb
   have HNX : Hid (Grow w wr.drew) := HGR.out.drew
   clear hb hrow hl r1 r2
   go_upto_region 6 with (fail)
   refine wp_region_stages Grow (kept_refl _) (kept_trans _) [] [0,1,2,3,4,5,6,7,8,9] (by kernel_rfl) (by kernel_rfl) ?_
   simp only [selSt,sel,ZmC,ZmN,ZgS,ZgZ]
   refine st_nil fun K2 hK2 => ?_
   repeat (go_big_quiet_step (fail))
   refine wpQuiet_nil (hK2 _ ?_)
   clear hK2 K2 q1 q2 q3
   go_wp2
   go_roundg (n - (j + 1))
   case measure => have := HG.out;omega
   case rel => exact ⟨j + 1,by omega,by go_num,HNX.out⟩
  ·have hjN : j = n := by have := HG.out;omega
   subst hjN
   go_wp2
   go_ret
   exact ⟨rfl,HGR.out⟩
set_option maxHeartbeats 2000000 in
theorem rsame_true {c q h : Int} {A A' : Option Addr} {n m n' m' : Nat} {zs : List Int} {w : World} (hz : Sl w w.heap.size .u8 A n zs) (hy : Sl w w.heap.size .u8 A' n' zs) : Calls Tryz.prog 22 #[.agg #[.int .i64 c,.int .i64 q,.int .i64 h,.slice A n m],.agg #[.int .i64 c,.int .i64 q,.int .i64 h,.slice A' n' m']] w fun e w' => e = .returned (.bool true) ∧ Grow w w' := by
 have hb := Blk.new w 27 [.int .i64 c,.int .i64 q,.int .i64 h,.slice A n m]
 have hg : Grow w (w.alloc (.cells #[.int .i64 c,.int .i64 q,.int .i64 h,.slice A n m] 27)) := (Kept.refl _ _).alloc _
 have hz1 : (w.alloc (.cells #[.int .i64 c,.int .i64 q,.int .i64 h,.slice A n m] 27)).heap.size = w.heap.size + 1 := by simp
 have hb2 := Blk.new (w.alloc (.cells #[.int .i64 c,.int .i64 q,.int .i64 h,.slice A n m] 27)) 27 [.int .i64 c,.int .i64 q,.int .i64 h,.slice A' n' m']
 have hg2 : Grow (w.alloc (.cells #[.int .i64 c,.int .i64 q,.int .i64 h,.slice A n m] 27)) ((w.alloc (.cells #[.int .i64 c,.int .i64 q,.int .i64 h,.slice A n m] 27)).alloc (.cells #[.int .i64 c,.int .i64 q,.int .i64 h,.slice A' n' m'] 27)) := (Kept.refl _ _).alloc _
 rw [hz1] at hb2
 have hb1 := hb.grow hg2
 have HG0 := hid (hg.trans hg2)
 have k1 := (Sl.kept hz HG0.out (Nat.le_refl _) fun _ _ e => e).str (P := Tryz.prog) 22 9 5 Tryz.underlying22 Tryz.underlying5 Tryz.underlying9 m
 have k2 := (Sl.kept hy HG0.out (Nat.le_refl _) fun _ _ e => e).str (P := Tryz.prog) 22 9 5 Tryz.underlying22 Tryz.underlying5 Tryz.underlying9 m'
 generalize strOfNums zs = sx at k1 k2
 have s0 := hb1.cell 0
 have s1 := hb1.cell 1
 have s2 := hb1.cell 2
 have s3 := hb1.cell 3
 have t0 := hb2.cell 0
 have t1 := hb2.cell 1
 have t2 := hb2.cell 2
 have t3 := hb2.cell 3
 simp only [ZeZ,ZeS] at s0 s1 s2 s3 t0 t1 t2 t3
 clear hb hg hz1 hb2 hg2 hb1 hz hy
 go_enter Tryz.func22,Tryz.ntmps22
 go_upto_region 1 with (fail)
 generalize (w.alloc (.cells #[.int .i64 c,.int .i64 q,.int .i64 h,.slice A n m] 27)).alloc (.cells #[.int .i64 c,.int .i64 q,.int .i64 h,.slice A' n' m'] 27) = w0 at *
 go_wp2
 go_ret
 exact ⟨rfl,HG0.out⟩
end
end RdG
namespace Calls13
open Go.ChangeShapes Go.WideShapes Go.ChangeAt Go.RowKit Go.Deep
open Mem Blk MdM
def num : Value → Int
 | .int _ z => z
 | _ => 0
def BytesAt (w : World) (A : Option Addr) (len cap : Nat) : Prop := ∃ d,Sl w w.heap.size .u8 A len d ∧ Bytes d ∧ len ≤ cap ∧ cap ≤ maxLen
structure CallV where
 c : Int
 k : Int
 p : Int
 h : Int
 o : Int
 n : Int
 A : Option Addr
 len : Nat
 cap : Nat
structure CallAt (w : World) (b q : Nat) (x : CallV) : Prop where
 c : w.cell? ⟨b,q,none⟩ = some (.int .i64 x.c)
 k : w.cell? ⟨b,q + 1,none⟩ = some (.int .i64 x.k)
 p : w.cell? ⟨b,q + 2,none⟩ = some (.int .i64 x.p)
 h : w.cell? ⟨b,q + 3,none⟩ = some (.int .i64 x.h)
 o : w.cell? ⟨b,q + 4,none⟩ = some (.int .i64 x.o)
 n : w.cell? ⟨b,q + 5,none⟩ = some (.int .i64 x.n)
 d : w.cell? ⟨b,q + 6,none⟩ = some (.slice x.A x.len x.cap)
 da : BytesAt w x.A x.len x.cap
 oB : -9223372036854775808 ≤ x.o ∧ x.o ≤ 9223372036854775807
def CallsAt (w : World) (A : Option Addr) (len cap : Nat) : Prop :=
 len ≤ cap ∧ cap ≤ maxLen ∧ (0 < len → ∃ b off,A = some ⟨b,off,none⟩ ∧ b < w.heap.size ∧ ∀ i,i < len → ∃ x,CallAt w b (off + i * 7) x)
section
variable {H : Type} {enc : TypeId × Value → H} {w : World} {base : Nat} {spare : Nat → Bool} {held : Bool}
theorem bytes_open {A : Option Addr} {len cap fuel : Nat} {x : DataW H × List MemPlace} (h : DataW.trod enc Tryz.prog w base spare held fuel 22 [.slice A len cap] = some x) : BytesAt w A len cap := by
 have hc1 : Tryz.prog.cellsOf 5 = 1 := by kernel_rfl
 rcases open_slice1 Tryz.underlying22 hc1 h with ⟨h0,_⟩ | ⟨a,l,c,m,n,V,D,Pl,hcs,_,hl,hm,hmm,_,hi⟩
 ·simp at h0
  obtain ⟨rfl,rfl,rfl⟩ := h0
  exact ⟨[],Sl.nil _ _ _ _,(fun _ h => by cases h),Nat.le_refl _,Nat.zero_le _⟩
 ·simp at hcs
  obtain ⟨rfl,rfl,rfl⟩ := hcs
  have hlm : len ≤ m := by rw [hmm];split <;> omega
  have key : ∀ i,i < len → ∃ z : Int,V i = .int .u8 z ∧ 0 ≤ z ∧ z < 256 := fun i hil => by
   obtain ⟨_,ht⟩ := hi i (by omega)
   obtain ⟨z,e,_,wz⟩ := DataW.trod_int Tryz.underlying5 ht
   have bz := bounds_u8 wz
   simp at e
   exact ⟨z,e,by omega,by omega⟩
  obtain ⟨f,hf⟩ : ∃ f : Nat → Int,∀ i,i < len → V i = .int .u8 (f i) ∧ 0 ≤ f i ∧ f i < 256 := by
   refine ⟨fun i => num (V i),fun i hil => ?_⟩
   obtain ⟨z,e,h1,h2⟩ := key i hil
   show V i = .int .u8 (num (V i)) ∧ 0 ≤ num (V i) ∧ num (V i) < 256
   rw [e]
   exact ⟨rfl,h1,h2⟩
  refine ⟨(List.range len).map f,⟨by simp,fun h0 => ?_⟩,fun z hz => ?_,hl,hm⟩
  ·obtain ⟨b,off,spot⟩ := a
   have a0 := (hi 0 (by omega)).1
   have hspot : spot = none := by simpa [Addr.add] using World.cell?_spot a0
   subst hspot
   have ea : ∀ q,(⟨b,off,none⟩ : Addr).add q = ⟨b,off + q,none⟩ := fun q => by unfold Addr.add;split <;> simp_all
   rw [ea] at a0
   refine ⟨b,off,rfl,block_lt_of_cell a0,fun j hj => ?_⟩
   have aj := (hi j (by omega)).1
   rw [ea] at aj
   rw [aj,(hf j hj).1]
   simp [List.getD_eq_getElem?_getD,hj]
  ·obtain ⟨i,hi',rfl⟩ := List.mem_map.1 hz
   have := hf i (List.mem_range.1 hi')
   exact ⟨this.2.1,this.2.2⟩
set_option maxRecDepth 4000 in
theorem calls_open {A : Option Addr} {len cap fuel : Nat} {x : DataW H × List MemPlace} (h : DataW.trod enc Tryz.prog w base spare held fuel 38 [.slice A len cap] = some x) : CallsAt w A len cap := by
 rcases open_slice Tryz.underlying38 h with ⟨h0,_⟩ | ⟨a,l,c,m,n,D,Pl,hcs,_,hl,hm,hmm,_,hi⟩
 ·simp at h0
  obtain ⟨rfl,rfl,rfl⟩ := h0
  exact ⟨Nat.le_refl _,Nat.zero_le _,fun h => absurd h (by omega)⟩
 ·simp at hcs
  obtain ⟨rfl,rfl,rfl⟩ := hcs
  have hlm : len ≤ m := by rw [hmm];split <;> omega
  have hc5 : Tryz.prog.cellsOf 57 = 7 := by kernel_rfl
  refine ⟨hl,hm,fun h0 => ?_⟩
  obtain ⟨b,off,spot⟩ := a
  have hspot : spot = none := by
   obtain ⟨cs',hc,_⟩ := hi 0 (by omega)
   rw [hc5] at hc
   obtain ⟨_,hcl,hat⟩ := World.cells?_some hc
   have a0 := hat 0 (by omega)
   rw [List.getElem?_eq_getElem (by omega)] at a0
   simpa [Addr.add] using World.cell?_spot a0
  subst hspot
  have key : ∀ i,i < len → b < w.heap.size ∧ ∃ x,CallAt w b (off + i * 7) x := by
   intro i hil
   obtain ⟨cs',hc,ht⟩ := hi i (by omega)
   rw [hc5] at hc
   obtain ⟨_,hcl,hat⟩ := World.cells?_some hc
   obtain ⟨ys,n',_,_,_,hyl,hf⟩ := DataW.trod_struct Tryz.underlying57 ht
   have ci : Tryz.prog.cellsOf 3 = 1 := by kernel_rfl
   have co : Tryz.prog.cellsOf 30 = 6 := by kernel_rfl
   have cb : Tryz.prog.cellsOf 22 = 1 := by kernel_rfl
   match cs',hcl,ys,hyl with
   | [v0,v1,v2,v3,v4,v5,v6],_,[y0,y1],_ =>
    have q0 : DataW.trod enc Tryz.prog w base spare held n' 3 (([v0,v1,v2,v3,v4,v5,v6].drop 0).take (Tryz.prog.cellsOf 3)) = some y0 := hf 0 _ rfl
    have q1 : DataW.trod enc Tryz.prog w base spare held n' 30 (([v0,v1,v2,v3,v4,v5,v6].drop 1).take (Tryz.prog.cellsOf 30)) = some y1 := hf 1 _ rfl
    rw [ci] at q0
    rw [co] at q1
    simp only [List.drop_zero,List.drop_succ_cons,List.take_succ_cons,List.take_zero] at q0 q1
    obtain ⟨zs,n'',_,_,_,hzl,hg⟩ := DataW.trod_struct Tryz.underlying30 q1
    match zs,hzl with
    | [u1,u2,u3,u4,u5,u6],_ =>
     have p1 : DataW.trod enc Tryz.prog w base spare held n'' 3 (([v1,v2,v3,v4,v5,v6].drop 0).take (Tryz.prog.cellsOf 3)) = some u1 := hg 0 _ rfl
     have p2 : DataW.trod enc Tryz.prog w base spare held n'' 3 (([v1,v2,v3,v4,v5,v6].drop 1).take (Tryz.prog.cellsOf 3)) = some u2 := hg 1 _ rfl
     have p3 : DataW.trod enc Tryz.prog w base spare held n'' 3 (([v1,v2,v3,v4,v5,v6].drop 2).take (Tryz.prog.cellsOf 3)) = some u3 := hg 2 _ rfl
     have p4 : DataW.trod enc Tryz.prog w base spare held n'' 3 (([v1,v2,v3,v4,v5,v6].drop 3).take (Tryz.prog.cellsOf 3)) = some u4 := hg 3 _ rfl
     have p5 : DataW.trod enc Tryz.prog w base spare held n'' 3 (([v1,v2,v3,v4,v5,v6].drop 4).take (Tryz.prog.cellsOf 3)) = some u5 := hg 4 _ rfl
     have p6 : DataW.trod enc Tryz.prog w base spare held n'' 22 (([v1,v2,v3,v4,v5,v6].drop 5).take (Tryz.prog.cellsOf 22)) = some u6 := hg 5 _ rfl
     rw [ci] at p1 p2 p3 p4 p5
     rw [cb] at p6
     simp only [List.drop_zero,List.drop_succ_cons,List.take_succ_cons,List.take_zero] at p1 p2 p3 p4 p5 p6
     obtain ⟨z0,e0,_,w0⟩ := DataW.trod_int Tryz.underlying3 q0
     obtain ⟨z1,e1,_,w1⟩ := DataW.trod_int Tryz.underlying3 p1
     obtain ⟨z2,e2,_,w2⟩ := DataW.trod_int Tryz.underlying3 p2
     obtain ⟨z3,e3,_,w3⟩ := DataW.trod_int Tryz.underlying3 p3
     obtain ⟨z4,e4,_,w4⟩ := DataW.trod_int Tryz.underlying3 p4
     obtain ⟨z5,e5,_,w5⟩ := DataW.trod_int Tryz.underlying3 p5
     have b4 := bounds_i64 w4
     have hsl : ∃ A' l' c',v6 = .slice A' l' c' := by
      rcases open_slice Tryz.underlying22 p6 with ⟨h0,_⟩ | ⟨a,l,c,m,n,D,Pl,hcs,_⟩
      ·simp at h0;exact ⟨_,_,_,h0⟩
      ·simp at hcs;exact ⟨_,_,_,hcs⟩
     obtain ⟨A',l',c',rfl⟩ := hsl
     have hda := bytes_open p6
     simp at e0 e1 e2 e3 e4 e5
     subst e0 e1 e2 e3 e4 e5
     have a0 := hat 0 (by omega)
     have a1 := hat 1 (by omega)
     have a2 := hat 2 (by omega)
     have a3 := hat 3 (by omega)
     have a4 := hat 4 (by omega)
     have a5 := hat 5 (by omega)
     have a6 := hat 6 (by omega)
     simp only [List.getElem?_cons_zero,List.getElem?_cons_succ,add_add] at a0 a1 a2 a3 a4 a5 a6
     have hbl := block_lt_of_cell a0
     have ea : ∀ q,(⟨b,off,none⟩ : Addr).add q = ⟨b,off + q,none⟩ := fun q => by unfold Addr.add;split <;> simp_all
     rw [ea] at a0 a1 a2 a3 a4 a5 a6 hbl
     refine ⟨hbl,⟨z0,z1,z2,z3,z4,z5,A',l',c'⟩,?_⟩
     exact { c := by simpa using a0,k := by simpa [Nat.add_assoc] using a1,p := by simpa [Nat.add_assoc] using a2,h := by simpa [Nat.add_assoc] using a3,o := by simpa [Nat.add_assoc] using a4,n := by simpa [Nat.add_assoc] using a5,d := by simpa [Nat.add_assoc] using a6,da := hda,oB := b4 }
  exact ⟨b,off,rfl,(key 0 h0).1,fun i hi => (key i hi).2⟩
end
end Calls13
namespace MdNear
open Go.ChangeShapes Go.WideShapes Go.ChangeAt Go.RowKit
open Mem Blk Cells Orow Stages Trees
theorem call_size : (Tryz.prog.info? 57).map (·.size) = some 7 := by kernel_rfl
theorem load_call {w : World} {g : Nat} {t : TypeId} {a b c d e f x : Value} (hg : Blk w g t [a,b,c,d,e,f,x]) : (loadVar 57 ⟨g,0,none⟩).run Tryz.prog w = .ok (.agg #[a,b,c,d,e,f,x]) w :=
 run_loadVar_row w g t 57 #[a,b,c,d,e,f,x] (0,0) _ hg Tryz.underlying57 rfl call_size
theorem ret_call {w : World} {fn : Func} {R : Ending → World → Prop} {act : Act} {p g : Nat} {t : TypeId} {a b c d e f x : Value} (h : fn.results = #[.cell p 57]) (hp : act.tmps.getD p undef = .pointer (some ⟨g,0,none⟩)) (hg : Blk w g t [a,b,c,d,e,f,x]) (hd : act.defers = []) (hR : R (.returned (.agg #[a,b,c,d,e,f,x])) w) : bodyPost Tryz.prog fn R .ret act w := by
 refine bodyPost_ret ?_ hd hR
 have hp' : act.tmps[p]?.getD undef = .pointer (some ⟨g,0,none⟩) := by simpa using hp
 simp [results,h,hp',asAddr,load_call hg]
theorem store_call {w : World} {g : Nat} {t : TypeId} {a b c d e f x a' b' c' d' e' f' x' : Value} (hg : Blk w g t [a',b',c',d',e',f',x']) :
  Blk (w.setRow g #[a,b,c,d,e,f,x]) g t [a,b,c,d,e,f,x] ∧ Kept (fun k => k = g) w (w.setRow g #[a,b,c,d,e,f,x]) :=
 ⟨setRow_heap w g _ #[a,b,c,d,e,f,x] t _ hg,⟨rfl,rfl,rfl,by simp,fun i hi hf => setRow_other w g i _ hf⟩⟩
def NearP (P C : Nat) (A : Option Addr) (len cap : Nat) (w : World) (e : Ending) (w' : World) : Prop :=
 ∃ c k p h o n len' : Nat,e = .returned (.agg #[.int .i64 (c : Int),.int .i64 (k : Int),.int .i64 (p : Int),.int .i64 (h : Int),.int .i64 (o : Int),.int .i64 (n : Int),.slice A len' cap]) ∧ c < C ∧ 1 ≤ k ∧ k ≤ 8 ∧ p < P ∧ h < 3 ∧ o < 8 ∧ n < 9 ∧ len' = min len 8 ∧ Grow w w'
theorem three_new (w : World) (c k p h o n s : Value) :
  Grow w (((w.alloc (.cells #[c,k,p,h,o,n,s] 57)).alloc (.cells #[.int .i64 0,.int .i64 0,.int .i64 0,.int .i64 0,.int .i64 0,.int .i64 0,.slice none 0 0] 57)).alloc (.cells #[k,p,h,o,n,s] 30)) ∧
  Blk (((w.alloc (.cells #[c,k,p,h,o,n,s] 57)).alloc (.cells #[.int .i64 0,.int .i64 0,.int .i64 0,.int .i64 0,.int .i64 0,.int .i64 0,.slice none 0 0] 57)).alloc (.cells #[k,p,h,o,n,s] 30)) w.heap.size 57 [c,k,p,h,o,n,s] ∧
  Blk (((w.alloc (.cells #[c,k,p,h,o,n,s] 57)).alloc (.cells #[.int .i64 0,.int .i64 0,.int .i64 0,.int .i64 0,.int .i64 0,.int .i64 0,.slice none 0 0] 57)).alloc (.cells #[k,p,h,o,n,s] 30)) (w.heap.size + 1) 57 [.int .i64 0,.int .i64 0,.int .i64 0,.int .i64 0,.int .i64 0,.int .i64 0,.slice none 0 0] ∧
  Blk (((w.alloc (.cells #[c,k,p,h,o,n,s] 57)).alloc (.cells #[.int .i64 0,.int .i64 0,.int .i64 0,.int .i64 0,.int .i64 0,.int .i64 0,.slice none 0 0] 57)).alloc (.cells #[k,p,h,o,n,s] 30)) (w.heap.size + 1 + 1) 30 [k,p,h,o,n,s] := by
 have g1 : Grow w (w.alloc (.cells #[c,k,p,h,o,n,s] 57)) := (Kept.refl _ _).alloc _
 have b1 := Blk.new w 57 [c,k,p,h,o,n,s]
 have z1 : (w.alloc (.cells #[c,k,p,h,o,n,s] 57)).heap.size = w.heap.size + 1 := by simp
 generalize w.alloc (.cells #[c,k,p,h,o,n,s] 57) = u at *
 have g2 : Grow u (u.alloc (.cells #[.int .i64 0,.int .i64 0,.int .i64 0,.int .i64 0,.int .i64 0,.int .i64 0,.slice none 0 0] 57)) := (Kept.refl _ _).alloc _
 have b2 := Blk.new u 57 [.int .i64 0,.int .i64 0,.int .i64 0,.int .i64 0,.int .i64 0,.int .i64 0,.slice none 0 0]
 have z2 : (u.alloc (.cells #[.int .i64 0,.int .i64 0,.int .i64 0,.int .i64 0,.int .i64 0,.int .i64 0,.slice none 0 0] 57)).heap.size = u.heap.size + 1 := by simp
 generalize u.alloc (.cells #[.int .i64 0,.int .i64 0,.int .i64 0,.int .i64 0,.int .i64 0,.int .i64 0,.slice none 0 0] 57) = v at *
 have g3 : Grow v (v.alloc (.cells #[k,p,h,o,n,s] 30)) := (Kept.refl _ _).alloc _
 have b3 := Blk.new v 30 [k,p,h,o,n,s]
 rw [z1] at b2 z2
 rw [z2] at b3
 exact ⟨(g1.trans g2).trans g3,(b1.grow g2).grow g3,b2.grow g3,b3⟩
set_option maxRecDepth 4000 in
set_option maxHeartbeats 1000000 in
theorem near_any (c k p h o n : Int) (A : Option Addr) (len cap P C : Nat) (hP : 1 ≤ P) (hC : 1 ≤ C) (hPb : P ≤ 48) (hCb : C ≤ 6) (hl : len ≤ cap) (w : World) :
  Calls Tryz.prog 21 #[.agg #[.int .i64 c,.int .i64 k,.int .i64 p,.int .i64 h,.int .i64 o,.int .i64 n,.slice A len cap],.int .i64 (P : Int),.int .i64 (C : Int)] w (NearP P C A len cap w) := by
 obtain ⟨hg,hb1,hb2,hb3⟩ := three_new w (.int .i64 c) (.int .i64 k) (.int .i64 p) (.int .i64 h) (.int .i64 o) (.int .i64 n) (.slice A len cap)
 have HG := hid hg
 have HB1 := hid hb1
 have HB2 := hid hb2
 have HB3 := hid hb3
 obtain ⟨c',hc,hcr⟩ := tmod_nat c C (by omega)
 obtain ⟨k',hk,hkr⟩ := tmod_nat k 8 (by omega)
 obtain ⟨p',hp,hpr⟩ := tmod_nat p P (by omega)
 obtain ⟨h',hh,hhr⟩ := tmod_nat h 3 (by omega)
 obtain ⟨o',ho,hor⟩ := tmod_nat o 8 (by omega)
 obtain ⟨n',hn,hnr⟩ := tmod_nat n 9 (by omega)
 replace hk : (IntKind.u64.wrap k).tmod 8 = (k' : Int) := hk
 replace hh : (IntKind.u64.wrap h).tmod 3 = (h' : Int) := hh
 replace ho : (IntKind.u64.wrap o).tmod 8 = (o' : Int) := ho
 replace hn : (IntKind.u64.wrap n).tmod 9 = (n' : Int) := hn
 have wP : IntKind.u64.wrap (P : Int) = (P : Int) := IntWalk.u64_in _ (by omega)
 have wC : IntKind.u64.wrap (C : Int) = (C : Int) := IntWalk.u64_in _ (by omega)
 have ic : IntKind.i64.wrap (c' : Int) = (c' : Int) := IntWalk.i64_in _ (by omega)
 have ik : IntKind.i64.wrap (k' : Int) = (k' : Int) := IntWalk.i64_in _ (by omega)
 have ik1 : IntKind.i64.wrap (1 + (k' : Int)) = 1 + (k' : Int) := IntWalk.i64_in _ (by omega)
 have ip : IntKind.i64.wrap (p' : Int) = (p' : Int) := IntWalk.i64_in _ (by omega)
 have ih : IntKind.i64.wrap (h' : Int) = (h' : Int) := IntWalk.i64_in _ (by omega)
 have io : IntKind.i64.wrap (o' : Int) = (o' : Int) := IntWalk.i64_in _ (by omega)
 have i2 : IntKind.i64.wrap (n' : Int) = (n' : Int) := IntWalk.i64_in _ (by omega)
 have nP : ((P : Int) == 0) = false := by rw [beq_eq_false_iff_ne];omega
 have nC : ((C : Int) == 0) = false := by rw [beq_eq_false_iff_ne];omega
 have nP' : ¬ ((P : Int) = 0) := by omega
 have nC' : ¬ ((C : Int) = 0) := by omega
 obtain ⟨Q,hQ⟩ : ∃ Q,Q = NearP P C A len cap w := ⟨_,rfl⟩
 have HQ := hid hQ
 rw [← hQ]
 have HR := hid (And.intro hcr (And.intro hkr (And.intro hpr (And.intro hhr (And.intro hor hnr)))))
 clear hg hb1 hb2 hb3 hQ hcr hkr hpr hhr hor hnr
 go_enter Tryz.func21,Tryz.ntmps21
 go_upto_region 2 with (fail)
 generalize ((w.alloc (.cells #[.int .i64 c,.int .i64 k,.int .i64 p,.int .i64 h,.int .i64 o,.int .i64 n,.slice A len cap] 57)).alloc (.cells #[.int .i64 0,.int .i64 0,.int .i64 0,.int .i64 0,.int .i64 0,.int .i64 0,.slice none 0 0] 57)).alloc (.cells #[.int .i64 k,.int .i64 p,.int .i64 h,.int .i64 o,.int .i64 n,.slice A len cap] 30) = w0 at HG HB1 HB2 HB3 ⊢
 have HS0 : Hid (w.heap.size = w.heap.size) := rfl
 obtain ⟨s,hs⟩ : ∃ s,s = w.heap.size := ⟨_,rfl⟩
 have HS := hid hs
 rw [← hs] at HB1 HB2 HB3 ⊢
 clear hs HS0
 have c0 := HB3.out.cell 0
 have cf := HB3.out.frozen 0
 simp only [List.getElem?_cons_zero] at c0
 go_upto_region 3 with (fail)
 clear c0 cf
 have HB4 : Hid (Blk (w0.setCell ⟨s + 1 + 1,0,none⟩ (.int .i64 (1 + (k' : Int)))) (s + 1 + 1) 30 [.int .i64 (1 + (k' : Int)),.int .i64 p,.int .i64 h,.int .i64 o,.int .i64 n,.slice A len cap]) := HB3.out.set 0 _
 have HK4 : Hid (Kept (· = s + 1 + 1) w0 (w0.setCell ⟨s + 1 + 1,0,none⟩ (.int .i64 (1 + (k' : Int))))) := kept_set w0 (s + 1 + 1) 0 _
 generalize w0.setCell ⟨s + 1 + 1,0,none⟩ (.int .i64 (1 + (k' : Int))) = w1 at HB4 HK4 ⊢
 have c1 := HB4.out.cell 1
 have c2 := HB4.out.cell 2
 have cf : w1.drew.frozen? ⟨s + 1 + 1,1,none⟩ = false := HB4.out.frozen 1
 simp only [ZeZ,ZeS] at c1 c2
 have q1 := up_cell (F := fun _ => False) (w := w1.drew) (p := ⟨s + 1 + 1,1,none⟩) c1 id
 have q2 := up_cell (F := fun _ => False) (w := w1.drew) (p := ⟨s + 1 + 1,2,none⟩) c2 id
 have HB5 : Hid (Blk (w1.setCell ⟨s + 1 + 1,1,none⟩ (.int .i64 (p' : Int))).drew (s + 1 + 1) 30 [.int .i64 (1 + (k' : Int)),.int .i64 (p' : Int),.int .i64 h,.int .i64 o,.int .i64 n,.slice A len cap]) := Blk.drew (HB4.out.set 1 _)
 have HK5 : Hid (Kept (· = s + 1 + 1) w1.drew (w1.setCell ⟨s + 1 + 1,1,none⟩ (.int .i64 (p' : Int))).drew) := kept_set w1.drew (s + 1 + 1) 1 _
 refine wp_region_tree Grow (Kept (· = s + 1 + 1)) (kept_refl _) (kept_trans _) (kept_refl _) (kept_trans _) (fun _ _ h => h.mono fun _ _ x => x.elim) [13,15]
  (.look true [0,1,2,3,4,5,6,7,8,12] (.one false [9,10,11] 13 (.one false [14] 15 (.last false [])))) (by kernel_rfl) (by kernel_rfl) ?_
 refine tr_lookE fun K hK => ?_
 simp only [sel,ZmC,ZmN,ZgS,ZgZ]
 repeat (go_big_quiet_step (fail))
 refine wpQuiet_nil (hK _ ?_)
 clear hK K q1 q2
 refine tr_oneL fun K hK => ?_
 simp only [sel,ZmC,ZmN,ZgS,ZgZ]
 repeat (go_big_quiet_step (fail))
 refine wpQuiet_nil ?_
 go_wp2
 refine norm_up (hK _ _ (Lr_late (by decide) HK5.out) ?_)
 clear hK K c1 c2 cf
 generalize (w1.setCell ⟨s + 1 + 1,1,none⟩ (.int .i64 (p' : Int))).drew = w2 at HB5 HK5 ⊢
 have c2 := HB5.out.cell 2
 have cf : w2.frozen? ⟨s + 1 + 1,2,none⟩ = false := HB5.out.frozen 2
 simp only [ZeZ,ZeS] at c2
 refine tr_oneL fun K hK => ?_
 simp only [sel,ZmC,ZmN,ZgS,ZgZ]
 repeat (go_big_quiet_step (fail))
 refine wpQuiet_nil ?_
 go_wp2
 refine norm_up (hK _ _ (Lr_late (by decide) (kept_set w2 (s + 1 + 1) 2 (.int .i64 (h' : Int)))) ?_)
 clear hK K c2 cf
 refine tr_lastL fun K hK => ?_
 simp only [sel,List.map_nil]
 refine wpQuiet_nil (hK _ ?_)
 clear hK K
 have HB6 : Hid (Blk (w2.setCell ⟨s + 1 + 1,2,none⟩ (.int .i64 (h' : Int))) (s + 1 + 1) 30 [.int .i64 (1 + (k' : Int)),.int .i64 (p' : Int),.int .i64 (h' : Int),.int .i64 o,.int .i64 n,.slice A len cap]) := HB5.out.set 2 _
 have HK6 : Hid (Kept (· = s + 1 + 1) w2 (w2.setCell ⟨s + 1 + 1,2,none⟩ (.int .i64 (h' : Int)))) := kept_set w2 (s + 1 + 1) 2 _
 generalize w2.setCell ⟨s + 1 + 1,2,none⟩ (.int .i64 (h' : Int)) = w3 at HB6 HK6 ⊢
 have c3 := HB6.out.cell 3
 have c4 := HB6.out.cell 4
 have cf := HB6.out.frozen
 simp only [ZeZ,ZeS] at c3 c4
 go_upto_region 5 with (fail)
 clear c3 c4 cf
 have HB7 : Hid (Blk ((w3.setCell ⟨s + 1 + 1,3,none⟩ (.int .i64 (o' : Int))).setCell ⟨s + 1 + 1,4,none⟩ (.int .i64 (n' : Int))) (s + 1 + 1) 30 [.int .i64 (1 + (k' : Int)),.int .i64 (p' : Int),.int .i64 (h' : Int),.int .i64 (o' : Int),.int .i64 (n' : Int),.slice A len cap]) := (HB6.out.set 3 _).set 4 _
 have HK7 : Hid (Kept (· = s + 1 + 1) w0 ((w3.setCell ⟨s + 1 + 1,3,none⟩ (.int .i64 (o' : Int))).setCell ⟨s + 1 + 1,4,none⟩ (.int .i64 (n' : Int)))) := (((HK4.out.drew.trans HK5.out).trans HK6.out).trans (kept_set w3 (s + 1 + 1) 3 _)).trans (kept_set _ (s + 1 + 1) 4 _)
 generalize (w3.setCell ⟨s + 1 + 1,3,none⟩ (.int .i64 (o' : Int))).setCell ⟨s + 1 + 1,4,none⟩ (.int .i64 (n' : Int)) = w4 at HB7 HK7 ⊢
 clear HB3 HB4 HB5 HB6 HK4 HK5 HK6
 have c5 := HB7.out.cell 5
 have cf := HB7.out.frozen 5
 simp only [ZeZ,ZeS] at c5
 have hlc : (len : Int) ≤ (cap : Int) := by omega
 by_cases h8 : 8 < len
 ·have h8z : (8 : Int) < (len : Int) := by omega
  have h8c : (8 : Int) ≤ (cap : Int) := by omega
  go_upto_region 7 with (fail)
  clear c5 cf
  have HB8 : Hid (Blk (w4.setCell ⟨s + 1 + 1,5,none⟩ (.slice A 8 cap)) (s + 1 + 1) 30 [.int .i64 (1 + (k' : Int)),.int .i64 (p' : Int),.int .i64 (h' : Int),.int .i64 (o' : Int),.int .i64 (n' : Int),.slice A 8 cap]) := HB7.out.set 5 _
  have HKA : Hid (Kept (· = s + 1 + 1) w0 (w4.setCell ⟨s + 1 + 1,5,none⟩ (.slice A 8 cap))) := HK7.out.trans (kept_set w4 (s + 1 + 1) 5 _)
  generalize w4.setCell ⟨s + 1 + 1,5,none⟩ (.slice A 8 cap) = w5 at HB8 HKA ⊢
  have HC5 := hid (HB1.out.kept HKA.out (fun (e : s = s + 1 + 1) => by omega))
  have HD5 := hid (HB2.out.kept HKA.out (fun (e : s + 1 = s + 1 + 1) => by omega))
  have r0 := HC5.out.cell 0
  have o0 := HB8.out.cell 0
  have o1 := HB8.out.cell 1
  have o2 := HB8.out.cell 2
  have o3 := HB8.out.cell 3
  have o4 := HB8.out.cell 4
  have o5 := HB8.out.cell 5
  simp only [ZeZ,ZeS] at r0 o0 o1 o2 o3 o4 o5
  have q0 := up_cell (F := fun x => x = s + 1) (w := w5.drew) (p := ⟨s,0,none⟩) r0 (fun e => by have e : s = s + 1 := e;omega)
  have q1 := up_cell (F := fun x => x = s + 1) (w := w5.drew) (p := ⟨s + 1 + 1,0,none⟩) o0 (fun e => by have e : s + 1 + 1 = s + 1 := e;omega)
  have q2 := up_cell (F := fun x => x = s + 1) (w := w5.drew) (p := ⟨s + 1 + 1,1,none⟩) o1 (fun e => by have e : s + 1 + 1 = s + 1 := e;omega)
  have q3 := up_cell (F := fun x => x = s + 1) (w := w5.drew) (p := ⟨s + 1 + 1,2,none⟩) o2 (fun e => by have e : s + 1 + 1 = s + 1 := e;omega)
  have q4 := up_cell (F := fun x => x = s + 1) (w := w5.drew) (p := ⟨s + 1 + 1,3,none⟩) o3 (fun e => by have e : s + 1 + 1 = s + 1 := e;omega)
  have q5 := up_cell (F := fun x => x = s + 1) (w := w5.drew) (p := ⟨s + 1 + 1,4,none⟩) o4 (fun e => by have e : s + 1 + 1 = s + 1 := e;omega)
  have q6 := up_cell (F := fun x => x = s + 1) (w := w5.drew) (p := ⟨s + 1 + 1,5,none⟩) o5 (fun e => by have e : s + 1 + 1 = s + 1 := e;omega)
  have HST := hid (store_call (a := .int .i64 (c' : Int)) (b := .int .i64 (1 + (k' : Int))) (c := .int .i64 (p' : Int)) (d := .int .i64 (h' : Int)) (e := .int .i64 (o' : Int)) (f := .int .i64 (n' : Int)) (x := .slice A 8 cap) (Blk.drew HD5.out))
  clear r0 o0 o1 o2 o3 o4 o5
  refine wp_region_stages (Kept (fun x => x = s + 1)) (kept_refl _) (kept_trans _) [([0,1,2,3,4,5,6,7,8],9)] [] (by kernel_rfl) (by kernel_rfl) ?_
  simp only [selSt,sel,ZmC,ZmN,ZgS,ZgZ]
  refine st_cons fun K hK => ?_
  repeat (go_big_quiet_step (fail))
  refine wpQuiet_nil ?_
  clear q0 q1 q2 q3 q4 q5 q6
  refine wpList_plain rfl fun _ hK0 => wp_store_row 57 _ _ rfl (s + 1) #[.int .i64 (c' : Int),.int .i64 (1 + (k' : Int)),.int .i64 (p' : Int),.int .i64 (h' : Int),.int .i64 (o' : Int),.int .i64 (n' : Int),.slice A 8 cap] rfl rfl _ _ (Blk.drew HD5.out) call_size rfl (by simp [Value.oneCell']) (hK0 _ _ ?_)
  go_wp2
  refine norm_up (hK _ _ HST.out.2 (st_nil fun K3 hK3 => wpQuiet_nil (hK3 _ ?_)))
  clear hK0 hK K hK3 K3
  have HBA := hid HST.out.1
  have HKF : Hid (Grow w (w5.drew.setRow (s + 1) #[.int .i64 (c' : Int),.int .i64 (1 + (k' : Int)),.int .i64 (p' : Int),.int .i64 (h' : Int),.int .i64 (o' : Int),.int .i64 (n' : Int),.slice A 8 cap])) := (HG.out.then HKA.out fun x hx (e : x = s + 1 + 1) => by have := HS.out;omega).drew.then HST.out.2 fun x hx (e : x = s + 1) => by have := HS.out;omega
  go_wp2
  rw [HQ.out]
  have hr := HR.out
  exact ret_call rfl rfl HBA.out rfl ⟨c',1 + k',p',h',o',n',8,rfl,hr.1,by omega,by omega,hr.2.2.1,hr.2.2.2.1,hr.2.2.2.2.1,hr.2.2.2.2.2,by omega,HKF.out⟩
 ·have h8z : ¬ (8 : Int) < (len : Int) := by omega
  have h8z' : (len : Int) ≤ 8 := by omega
  go_upto_region 7 with (fail)
  clear c5 cf
  have HB8 := HB7
  have HKA := HK7
  obtain ⟨w5,hw5⟩ : ∃ w5,w5 = w4 := ⟨_,rfl⟩
  rw [← hw5] at HB8 HKA ⊢
  clear hw5 HB7 HK7
  have HC5 := hid (HB1.out.kept HKA.out (fun (e : s = s + 1 + 1) => by omega))
  have HD5 := hid (HB2.out.kept HKA.out (fun (e : s + 1 = s + 1 + 1) => by omega))
  have r0 := HC5.out.cell 0
  have o0 := HB8.out.cell 0
  have o1 := HB8.out.cell 1
  have o2 := HB8.out.cell 2
  have o3 := HB8.out.cell 3
  have o4 := HB8.out.cell 4
  have o5 := HB8.out.cell 5
  simp only [ZeZ,ZeS] at r0 o0 o1 o2 o3 o4 o5
  have q0 := up_cell (F := fun x => x = s + 1) (w := w5.drew) (p := ⟨s,0,none⟩) r0 (fun e => by have e : s = s + 1 := e;omega)
  have q1 := up_cell (F := fun x => x = s + 1) (w := w5.drew) (p := ⟨s + 1 + 1,0,none⟩) o0 (fun e => by have e : s + 1 + 1 = s + 1 := e;omega)
  have q2 := up_cell (F := fun x => x = s + 1) (w := w5.drew) (p := ⟨s + 1 + 1,1,none⟩) o1 (fun e => by have e : s + 1 + 1 = s + 1 := e;omega)
  have q3 := up_cell (F := fun x => x = s + 1) (w := w5.drew) (p := ⟨s + 1 + 1,2,none⟩) o2 (fun e => by have e : s + 1 + 1 = s + 1 := e;omega)
  have q4 := up_cell (F := fun x => x = s + 1) (w := w5.drew) (p := ⟨s + 1 + 1,3,none⟩) o3 (fun e => by have e : s + 1 + 1 = s + 1 := e;omega)
  have q5 := up_cell (F := fun x => x = s + 1) (w := w5.drew) (p := ⟨s + 1 + 1,4,none⟩) o4 (fun e => by have e : s + 1 + 1 = s + 1 := e;omega)
  have q6 := up_cell (F := fun x => x = s + 1) (w := w5.drew) (p := ⟨s + 1 + 1,5,none⟩) o5 (fun e => by have e : s + 1 + 1 = s + 1 := e;omega)
  have HST := hid (store_call (a := .int .i64 (c' : Int)) (b := .int .i64 (1 + (k' : Int))) (c := .int .i64 (p' : Int)) (d := .int .i64 (h' : Int)) (e := .int .i64 (o' : Int)) (f := .int .i64 (n' : Int)) (x := .slice A len cap) (Blk.drew HD5.out))
  clear r0 o0 o1 o2 o3 o4 o5
  refine wp_region_stages (Kept (fun x => x = s + 1)) (kept_refl _) (kept_trans _) [([0,1,2,3,4,5,6,7,8],9)] [] (by kernel_rfl) (by kernel_rfl) ?_
  simp only [selSt,sel,ZmC,ZmN,ZgS,ZgZ]
  refine st_cons fun K hK => ?_
  repeat (go_big_quiet_step (fail))
  refine wpQuiet_nil ?_
  clear q0 q1 q2 q3 q4 q5 q6
  refine wpList_plain rfl fun _ hK0 => wp_store_row 57 _ _ rfl (s + 1) #[.int .i64 (c' : Int),.int .i64 (1 + (k' : Int)),.int .i64 (p' : Int),.int .i64 (h' : Int),.int .i64 (o' : Int),.int .i64 (n' : Int),.slice A len cap] rfl rfl _ _ (Blk.drew HD5.out) call_size rfl (by simp [Value.oneCell']) (hK0 _ _ ?_)
  go_wp2
  refine norm_up (hK _ _ HST.out.2 (st_nil fun K3 hK3 => wpQuiet_nil (hK3 _ ?_)))
  clear hK0 hK K hK3 K3
  have HBA := hid HST.out.1
  have HKF : Hid (Grow w (w5.drew.setRow (s + 1) #[.int .i64 (c' : Int),.int .i64 (1 + (k' : Int)),.int .i64 (p' : Int),.int .i64 (h' : Int),.int .i64 (o' : Int),.int .i64 (n' : Int),.slice A len cap])) := (HG.out.then HKA.out fun x hx (e : x = s + 1 + 1) => by have := HS.out;omega).drew.then HST.out.2 fun x hx (e : x = s + 1) => by have := HS.out;omega
  go_wp2
  rw [HQ.out]
  have hr := HR.out
  exact ret_call rfl rfl HBA.out rfl ⟨c',1 + k',p',h',o',n',len,rfl,hr.1,by omega,by omega,hr.2.2.1,hr.2.2.2.1,hr.2.2.2.2.1,hr.2.2.2.2.2,by omega,HKF.out⟩
end MdNear
namespace RgN
open Go.ChangeShapes Go.WideShapes Go.ChangeAt Go.RowKit
open Mem Blk Cells Orow RgB Calls13 MdM
open RgS RgQ RfP
structure Std (w wr : World) (c : Nat → Nat) (ν : Nm) (p : RfM.Pl) (k : Nat) : Prop where
 x : PAt wr c ν p k
 g : Grow w wr
 z : ∀ i,i < w.heap.size → c i = 0
section
variable {w wr w' : World} {c c' : Nat → Nat} {ν : Nm} {p p' : RfM.Pl} {k k' g n : Nat} {F : Nat → Prop} {bs : List (Nat × List Value)} {t : IntKind} {A : Option Addr} {zs : List Int}
theorem Std.went (h : Std w wr c ν p k) (hw : Went wr c w' c') (hp : PAt w' c' ν p' k') : Std w w' c' ν p' k' :=
 ⟨hp,h.g.then hw.kept fun i hi m => by have := h.z i hi;have := m.2;omega,fun i hi => (hw.old i (Nat.lt_of_lt_of_le hi h.g.size)).trans (h.z i hi)⟩
theorem Std.grow (h : Std w wr c ν p k) (hk : Grow wr w') : Std w w' (paint wr.heap.size 0 c) ν p k := ⟨h.x.grow hk,h.g.trans hk,fun i hi => (paint_old (Nat.lt_of_lt_of_le hi h.g.size)).trans (h.z i hi)⟩
theorem new_std (hp : PAt w' c ν p k) (hg : Grow w w') (hz : ∀ i,i < w.heap.size → c i = 0) : Std w w' c ν p k := ⟨hp,hg,hz⟩
end
section
variable {w w' : World} {A : Option Addr} {n c B len cap : Nat} {zs : List Int}
def FineP (w : World) (A : Option Addr) (len : Nat) (m : Int) (e : Ending) (w' : World) : Prop := w = w' ∧ (e = .returned (.bool false) ∨ (e = .returned (.bool true) ∧ (len : Int) ≤ m ∧ ∀ b off,A = some ⟨b,off,none⟩ → ∀ i,i < len → ∀ x,CallAt w b (off + i * 7) x → x.len ≤ 40))
theorem fine_any (m : Int) (h : CallsAt w A len cap) : Calls Tryz.prog 18 #[.slice A len cap,.int .i64 m] w (FineP w A len m) := by
 obtain ⟨hlc,hcm,hops⟩ := h
 unfold maxLen at hcm
 have HOPS := hid hops
 clear hops
 go_enter Tryz.func18,Tryz.ntmps18
 go_wp2
 go_loopg [5] len (fun gx i wr => ∃ j : Nat,j + gx = len ∧ i = .int .i64 (j : Int) ∧ w = wr ∧ ∀ b off,A = some ⟨b,off,none⟩ → ∀ i,i < j → ∀ x,CallAt w b (off + i * 7) x → x.len ≤ 40)
 case atStart => exact ⟨0,by omega,rfl,rfl,fun _ _ _ i hi => absurd hi (Nat.not_lt_zero i)⟩
 case round =>
  obtain ⟨j,hg,rfl,rfl,hno⟩ := hrel
  have HG := hid hg
  have HNO := hid hno
  clear hg hno
  by_cases hj : j < len
  ·have hjz : (j : Int) < (len : Int) := by omega
   obtain ⟨b,off,rfl,hb,hall⟩ := HOPS.out (by omega)
   obtain ⟨x,hx⟩ := hall j hj
   have HX := hid hx
   have cd := hx.d
   clear hall hx
   by_cases h40 : 40 < x.len
   ·have h40z : (40 : Int) < (x.len : Int) := by omega
    clear h40
    go_wp2
    go_ret
    exact ⟨rfl,.inl rfl⟩
   ·have h40z : ¬ ((40 : Int) < (x.len : Int)) := by omega
    have H40 := hid h40
    clear h40
    go_wp2
    go_roundg (gk - 1)
    case measure => have := HG.out;omega
    case rel => exact ⟨j + 1,by have := HG.out;omega,by go_num,rfl,fun b' off' e i hi y hy => by
     injection e with e
     injection e with e1 e2
     subst e1 e2
     by_cases ei : i = j
     ·subst ei
      have h1 := hy.d
      rw [HX.out.d] at h1
      injection h1 with h1
      injection h1 with _ h2 _
      have := H40.out
      omega
     ·exact HNO.out _ _ rfl i (by omega) y hy⟩
  ·have hjn : j = len := by have := HG.out;omega
   subst hjn
   by_cases hm : (j : Int) ≤ m
   ·have HM := hid hm
    clear hj
    go_wp2
    go_ret
    exact ⟨rfl,.inr ⟨by simp,HM.out,HNO.out⟩⟩
   ·have hm' : m < (j : Int) := by omega
    clear hj hm
    go_wp2
    go_ret
    exact ⟨rfl,.inl (by simp;try omega)⟩
end
end RgN
namespace RfL
open MdM (Md MdOp Re)
open ArM (Ar Fr fFree fUsed)
open TabM (upd upd_same upd_other)
open Dev (Dv)
open RfM RfI RfR RfF RfX
section
variable {p a b : Pl} {c : Int} {o : MdOp} {f q k n : Nat} {z : List Int}
theorem inv_fail (i : Inv p) (k : Int) : Inv ⟨p.X,Dev.failS p.D k,p.A,p.L⟩ := by
 have e : (Dev.failS p.D k).N = p.D.N ∧ (Dev.failS p.D k).down = p.D.down ∧ ∀ r,Dev.cur (Dev.failS p.D k) r = Dev.cur p.D r := by
  unfold Dev.failS
  split <;> exact ⟨rfl,rfl,fun _ => rfl⟩
 exact i.same e.1 (by rw [e.2.1];exact i.dn) e.2.2 i.nd fun _ => Iff.rfl
end
end RfL
namespace RgTw
open Go.ChangeShapes Go.WideShapes Go.ChangeAt Go.RowKit
open Mem Blk Cells RfP RgS RgQ RgN
open MdM (Md MdOp Re)
open RfM (Pl)
open RgM (Bnd)
def fl (p : Pl) (m : Int) : Pl := ⟨p.X,Dev.failS p.D m,p.A,p.L⟩
theorem pfail {w : World} {c : Nat → Nat} {ν : Nm} {p : Pl} {k : Nat} (x : PAt w c ν p k) (m : Int) : Calls Tryz.prog 19 #[.pointer (some ⟨ν.d,0,none⟩),.int .i64 m] w fun e w' => e = .returned (.bool (Dev.failB m)) ∧ ∃ c',Went w c w' c' ∧ PAt w' c' ν (fl p m) k := by
 refine (DevC.fail_any x.m.dev m).mono fun e w' ⟨he,hd,hk⟩ => ⟨he,?_⟩
 obtain ⟨c',hw,hm⟩ := x.m.setD hd hk
 refine ⟨c',hw,⟨hm,RfL.inv_fail x.i m,⟨x.f.n,x.f.N,x.f.K⟩,?_⟩⟩
 have hb := x.b
 unfold Bnd at hb ⊢
 show (Dev.failS p.D m).n ≤ k ∧ (Dev.failS p.D m).bad ≤ 1000000
 unfold Dev.failS
 split
 ·rename_i h
  simp only [Dev.failB,Bool.and_eq_true,decide_eq_true_eq] at h
  exact ⟨hb.1,by show m.toNat ≤ 1000000;omega⟩
 ·exact hb
section
variable {w w0 w1 wx w' : World} {νA νB : Nm} {cA cB cA' cB' : Nat → Nat} {a b a' b' : Pl} {k l k' l' n g : Nat} {bs : List (Nat × TypeId × List Value)} {ds : List (Option Addr × Nat × List Int)} {F : Nat → Prop} {A : Option Addr} {r : List Int} {t : TypeId} {cs cs' : List Value}
theorem out_eq {c c' : Nat → Nat} {i : Nat} (h : Out c i) (e : c' i = c i) : Out c' i := by unfold Out;rw [e];exact h
theorem not_mine {c : Nat → Nat} {i : Nat} (h : Out c i) : ¬ Mine w c i := fun e => by have := e.2;unfold Out at h;omega
end
end RgTw
namespace RdH
open Go.ChangeShapes Go.WideShapes Go.ChangeAt Go.RowKit
open Mem Blk Cells Orow RfP RdS RdA RdB RdC RdG RgS RgQ RgN RgTw Stages
open MdM (Md MdOp Re)
open ArM (Ar)
open ArC (FR)
open Dev (Dv)
open RfM (Pl)
open RgV (OwnFrames orderL thereL)
open RefD (POwn)
section
variable {w w' : World} {F : Nat → Prop} {col col' cA cA' cB cB' : Nat → Nat} {ν : Nm} {ρ : Rn} {X : Md} {D : Dv} {A : Ar} {L : List Nat} {p p' : Pl} {k k' : Nat}
theorem rd_went (h : RdAt w col ρ X D A L) (hk : Kept F w w') (hF : ∀ k,k < w.heap.size → F k → col k < 1 ∨ 5 < col k) (hc : ∀ k,k < w.heap.size → col' k = col k) : RdAt w' col' ρ X D A L := by
 have h0 := h.keep hk hF 0
 have key : ∀ k,1 ≤ paint w.heap.size 0 col k → col' k = paint w.heap.size 0 col k := fun k hp => by
  by_cases e : k < w.heap.size
  ·rw [paint_old e];exact hc k e
  ·rw [paint_new (by omega)] at hp;omega
 obtain ⟨x,y,z,h1,h2⟩ := h0.own
 refine ⟨⟨x,y,z,h1,h2.mono fun k hk h3 => ⟨hk,(key k (by rw [h3.2];decide)).trans h3.2⟩⟩,⟨⟨h0.t.d.1,fun k hk => (key k (by rw [h0.t.d.2 k hk];decide)).trans (h0.t.d.2 k hk)⟩,rat_mono h0.t.a fun k hk h3 => ⟨hk,(key k (by rw [h3.2];decide)).trans h3.2⟩,ListR.RefAt.widen h0.t.l fun k hk h3 => ⟨hk,fun e => h3.2 ((key k (by rw [e];decide)).trans e)⟩⟩,(key _ (by rw [h0.c];decide)).trans h0.c⟩
def OutD (c : Nat → Nat) (i : Nat) : Prop := c i < 1 ∨ 5 < c i
structure T2 (w : World) (ν : Nm) (ρ : Rn) (wx : World) (cA : Nat → Nat) (a : Pl) (k : Nat) (cB : Nat → Nat) (b : Pl) : Prop where
 a : Std w wx cA ν a k
 b : RdP wx cB ρ b
 z : ∀ i,i < w.heap.size → cB i = 0
 d : ∀ i,i < wx.heap.size → Out cA i ∨ OutD cB i
variable {wx : World} {a a' b b' : Pl}
theorem T2.wentA (h : T2 w ν ρ wx cA a k cB b) (hw : Went wx cA w' cA') (hp : PAt w' cA' ν a' k') : T2 w ν ρ w' cA' a' k' (paint wx.heap.size 0 cB) b := by
 refine ⟨h.a.went hw hp,rd_went h.b hw.kept (fun i hi m => ?_) (fun i hi => paint_old hi),fun i hi => (paint_old (Nat.lt_of_lt_of_le hi h.a.g.size)).trans (h.z i hi),fun i hi => ?_⟩
 ·rcases h.d i hi with x | x
  ·exact absurd m (not_mine x)
  ·exact x
 ·by_cases e : i < wx.heap.size
  ·rcases h.d i e with x | x
   ·exact .inl (out_eq x (hw.old i e))
   ·exact .inr (by unfold OutD;rw [paint_old e];exact x)
  ·exact .inr (.inl (by rw [paint_new (by omega)];decide))
theorem T2.wentB (h : T2 w ν ρ wx cA a k cB b) (hw : WentD wx cB w' cB') (hp : RdP w' cB' ρ b') : T2 w ν ρ w' (paint wx.heap.size 0 cA) a k cB' b' := by
 refine ⟨⟨h.a.x.keep hw.kept (fun i hi m => ?_) (fun i hi => paint_old hi),h.a.g.then hw.kept fun i hi m => ?_,fun i hi => (paint_old (Nat.lt_of_lt_of_le hi h.a.g.size)).trans (h.a.z i hi)⟩,hp,fun i hi => (hw.old i (Nat.lt_of_lt_of_le hi h.a.g.size)).trans (h.z i hi),fun i hi => ?_⟩
 ·rcases h.d i hi with x | x
  ·exact x
  ·have := m.2
   unfold OutD at x
   omega
 ·have := h.z i hi
  have := m.2
  omega
 ·by_cases e : i < wx.heap.size
  ·rcases h.d i e with x | x
   ·exact .inl (out_eq x (paint_old e))
   ·exact .inr (by unfold OutD;rw [hw.old i e];exact x)
  ·exact .inl (out_new (c := 0) (by omega))
theorem T2.grow (h : T2 w ν ρ wx cA a k cB b) (hk : Grow wx w') : T2 w ν ρ w' (paint wx.heap.size 0 cA) a k (paint wx.heap.size 0 cB) b := h.wentA (Went.grow hk) (h.a.x.grow hk)
theorem T2.up (h : T2 w ν ρ wx cA a k cB b) (hk : k ≤ k') : T2 w ν ρ wx cA a k' cB b := ⟨⟨h.a.x.up hk,h.a.g,h.a.z⟩,h.b,h.z,h.d⟩
theorem T2.turn (h : T2 w ν ρ wx cA a k cB b) (hk : Kept F wx w') (hF : ∀ i,i < wx.heap.size → F i → w.heap.size ≤ i ∧ Out cA i ∧ OutD cB i) : T2 w ν ρ w' (paint wx.heap.size 0 cA) a k (paint wx.heap.size 0 cB) b := by
 refine ⟨⟨h.a.x.keep hk (fun i h1 h2 => (hF i h1 h2).2.1) (fun i hi => paint_old hi),h.a.g.then hk fun i h1 h2 => ?_,fun i hi => (paint_old (Nat.lt_of_lt_of_le hi h.a.g.size)).trans (h.a.z i hi)⟩,rd_went h.b hk (fun i h1 h2 => (hF i h1 h2).2.2) (fun i hi => paint_old hi),fun i hi => (paint_old (Nat.lt_of_lt_of_le hi h.a.g.size)).trans (h.z i hi),fun i hi => ?_⟩
 ·have := (hF i (Nat.lt_of_lt_of_le h1 h.a.g.size) h2).1
  omega
 ·by_cases e : i < wx.heap.size
  ·rcases h.d i e with x | x
   ·exact .inl (out_eq x (paint_old e))
   ·exact .inr (by unfold OutD;rw [paint_old e];exact x)
  ·exact .inl (out_new (c := 0) (by omega))
theorem T2.drew (h : T2 w ν ρ wx cA a k cB b) : T2 w ν ρ wx.drew cA a k cB b := ⟨⟨h.a.x.drew,h.a.g.trans (Kept.drew' wx),h.a.z⟩,h.b.drew,h.z,h.d⟩
theorem T2.out (h : T2 w ν ρ wx cA a k cB b) : Out cA ρ.m := by
 have hc := h.b.c
 rcases h.d ρ.m (block_lt_of_cell h.b.c3) with x | x
 ·exact x
 ·unfold OutD at x;omega
theorem two_new {w0 w1 : World} (h1 : PAt w0 cA ν a k) (g1 : Grow w w0) (z1 : ∀ i,i < w.heap.size → cA i = 0) (h2 : RdP w1 cB ρ b) (g2 : Grow w0 w1) (z2 : ∀ i,i < w0.heap.size → cB i = 0) : T2 w ν ρ w1 (paint w0.heap.size 0 cA) a k cB b := by
 refine ⟨(new_std h1 g1 z1).grow g2,h2,fun i hi => z2 i (Nat.lt_of_lt_of_le hi g1.size),fun i hi => ?_⟩
 by_cases e : i < w0.heap.size
 ·exact .inr (.inl (by rw [z2 i e];decide))
 ·exact .inl (out_new (c := 0) (by omega))
theorem rfail (h : RdP w col ρ p) (m : Int) : Calls Tryz.prog 20 #[.pointer (some ⟨ρ.r.m,0,none⟩),.int .i64 m] w fun e w' => e = .returned (.bool (Dev.failB m)) ∧ Kept (· ≠ ρ.m) w w' ∧ ∃ col',WentD w col w' col' ∧ RdP w' col' ρ (fl p m) :=
 (RefD.rfail_any h.t.d.1 m).mono fun e w' ⟨he,hd,hk⟩ => ⟨he,hk.mono fun i _ hi e => by have := h.t.d.2 i hi;have := h.c;rw [e] at *;omega,h.setD hd hk⟩
end
end RdH
end Go.Proofs.YtbnkpnllgoghnaaGreat
