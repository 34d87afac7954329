import Derived.Test.YtbnkpnllgoghnaaGreatPh
set_option linter.unusedVariables false
namespace Go.Proofs.YtbnkpnllgoghnaaGreat
open Go.Lib (hid)
namespace ArA
open Go.ChangeShapes Go.WideShapes Go.ChangeAt Go.RowKit
open Mem Blk Cells Orow GsC TabM ArM ArC ArD ArB ArR Stages
section
variable {w w' : World} {G H F : Nat → Prop} {d g cap dl Dl dt Dt : Nat} {T : Tb} {a : Ar}
theorem spare_none (h : Nil w G d a) : Calls Tryz.prog 140 #[.pointer (some ⟨d,0,none⟩)] w fun e w' => e = .returned (.int .i64 0) ∧ w = w' := by
 have c0 := h.h0
 clear h
 go_enter Tryz.func140,Tryz.ntmps140
 go_wp2
 go_step3
 go_wp2
 go_step3
 go_wp2
 go_loopg [3] 1 (fun gx i wr => i = .int .i64 0 ∧ w = wr)
 case atStart => exact ⟨rfl,rfl⟩
 case round =>
  obtain ⟨rfl,rfl⟩ := hrel
  go_wp2
  try rw [Exit.noGoto_ret]
  go_ret
  exact ⟨rfl,rfl⟩
theorem spare_big (h : Big w G d g cap dl Dl dt Dt T a) (hn : a.n ≤ 32) : Calls Tryz.prog 140 #[.pointer (some ⟨d,0,none⟩)] w fun e w' => e = .returned (.int .i64 (a.spare : Int)) ∧ w = w' := by
 have H := hid h
 have hnz : (a.n : Int) ≤ 32 := by omega
 clear h
 go_enter Tryz.func140,Tryz.ntmps140
 go_wp2
 go_step3
 go_wp2
 go_step3
 go_wp2
 go_loopg [3] a.n (fun gx i wr => ∃ j : Nat,j + gx = a.n ∧ i = .int .i64 (j : Int) ∧ (∀ k,k < j → isG a k = false) ∧ w = wr)
 case atStart => exact ⟨0,by omega,rfl,fun k hk => absurd hk (by omega),rfl⟩
 case round =>
  obtain ⟨j,hg,rfl,hno,rfl⟩ := hrel
  have HG := hid hg
  have HNO := hid hno
  clear hg hno
  have c0 := H.out.h0
  by_cases hj : j < a.n
  ·have hjz : (j : Int) < (a.n : Int) := by omega
   have f0 := H.out.fr.c0 hj
   by_cases h4 : (a.F j).st = 4
   ·have HE : Hid (a.spare = j) := least_eq hj (decide_eq_true h4) HNO.out
    rw [h4] at f0
    go_wp2
    try rw [Exit.noGoto_ret]
    go_ret
    exact ⟨by rw [HE.out];rfl,rfl⟩
   ·have HE : Hid (isG a j = false) := decide_eq_false h4
    have h4' : ((a.F j).st == 4) = false := beq_eq_false_iff_ne.2 h4
    generalize (a.F j).st = st at *
    go_wp2
    go_roundg (gk - 1)
    case measure => have := HG.out;omega
    case rel =>
     refine ⟨j + 1,by have := HG.out;omega,by go_num,fun k hk => ?_,rfl⟩
     by_cases e : k = j
     ·subst e;exact HE.out
     ·exact HNO.out k (by omega)
  ·obtain rfl : j = a.n := by have := HG.out;omega
   have HE : Hid (a.spare = a.n) := least_all HNO.out
   go_wp2
   try rw [Exit.noGoto_ret]
   go_ret
   exact ⟨by rw [HE.out];rfl,rfl⟩
theorem addF_n (a : Ar) (v : Fr) : (⟨a.n + 1,upd a.F a.n v,a.B,a.Q⟩ : Ar).dropF a.n = a.addF a.n := by
 unfold Ar.dropF Ar.addF
 rw [if_neg (by omega)]
 congr 1
 funext x
 unfold upd
 dsimp only
 split <;> rfl
theorem joined_frame (F : Nat → Fr) (n : Nat) (i : Nat) (hi : i < (n + 1) * 5) : joined (fcell F) (fcell fun _ => ⟨0,0,0,false⟩) (n * 5) i = fcell (upd F n ⟨0,0,0,false⟩) i := by
 unfold joined
 by_cases e : i < n * 5
 ·rw [if_pos e]
  unfold fcell
  rw [upd_other _ _ (by omega)]
 ·rw [if_neg e]
  unfold fcell
  rw [show i / 5 = n by omega,upd_same,show (i - n * 5) % 5 = i % 5 by omega]
def zfr (w : World) : World := w.alloc (.cells #[.int .i64 0,.int .i64 0,.int .i64 0,.int .i64 0,.bool false] 36)
theorem more_frame {n : Nat} {F : Nat → Fr} {v : Value} (h : OS w G v 36 5 n (fcell F)) (hn : n ≤ 1000) :
  ∃ g cap w',(∀ ty,(Builtin.append_ #[31,31] ty #[v,.slice (some ⟨w.heap.size,0,none⟩) 1 1]).run Tryz.prog (zfr w) = .ok (.slice (some ⟨g,0,none⟩) (n + 1) cap) w') ∧ FR w' g cap (n + 1) (upd F n ⟨0,0,0,false⟩) ∧ Kept (fun k => v.ownBlock = some k) w w' ∧ (v.ownBlock = some g ∨ w.heap.size ≤ g) := by
 obtain ⟨i0,hi,hz0,hz1,hz2⟩ := info_parts infoFr
 have hb := Blk.new w 36 [.int .i64 0,.int .i64 0,.int .i64 0,.int .i64 0,.bool false]
 have hg : Grow w (zfr w) := (Kept.refl _ w).alloc _
 have key := fun ty => append_or (P := Tryz.prog) 31 ty i0 _ 40 Tryz.underlying31 hi hz0 hz1 hz2 rfl (by omega) (h.kept hg fun _ _ x => x) (by omega) (by omega) w.heap.size 1 (u := fcell fun _ => ⟨0,0,0,false⟩) (fun j hj => by
  refine (Blk.cell hb j).trans ?_
  have : j = 0 ∨ j = 1 ∨ j = 2 ∨ j = 3 ∨ j = 4 := by omega
  rcases this with rfl | rfl | rfl | rfl | rfl <;> rfl) (fun j _ => fcell_one _ j)
 obtain ⟨g,cap,w',h1,h2,h3,h4⟩ := key 0
 refine ⟨g,cap,w',fun ty => ?_,OR.congr h2 fun i hi => joined_frame F n i hi,hg.kept.trans h3,?_⟩
 ·obtain ⟨g',cap',w2,k1,_⟩ := key ty
  rw [← h1]
  rfl
 ·rcases h4 with h4 | h4
  ·exact .inl h4
  ·exact .inr (by rw [h4];exact hg.size)
theorem add_full (h : ArAt w G d a) (hs : ¬ a.spare < 32) : Calls Tryz.prog 87 #[.pointer (some ⟨d,0,none⟩)] w fun e w' => e = .returned (.int .i64 (-1)) ∧ w = w' := by
 have hn := h.good.n
 have hsn := spare_le (a := a)
 have e : a.spare = 32 := by omega
 obtain ⟨g,cap,dl,Dl,dt,Dt,T,hb⟩ := ArAt.big h (by omega)
 have HS := hid (spare_big hb hn)
 rw [e] at HS
 simp only [Int.cast_ofNat_Int] at HS
 clear h hb hs hn hsn e
 go_enter Tryz.func87,Tryz.ntmps87
 go_wp2_with (go_at_call 140;(with_reducible refine HS.out.mono ?_);rintro e w' ⟨rfl,rfl⟩)
 go_ret
 exact ⟨rfl,rfl⟩
theorem add_old (h : ArAt w G d a) (hs : a.spare < a.n) : Calls Tryz.prog 87 #[.pointer (some ⟨d,0,none⟩)] w (APost G d w (.int .i64 (a.spare : Int)) (a.addF a.spare)) := by
 have hn := h.good.n
 obtain ⟨g,cap,dl,Dl,dt,Dt,T,hb⟩ := ArAt.big h (by omega)
 have HS := hid (spare_big hb hn)
 have h4 := spare_gone hs
 have HR := hid (release_any hb.core hn a.spare hs (fun hm => by have := (h.good.q _).1 hm;omega))
 have HG := hid (h.good.addF (by omega))
 have HT : Hid (Tabs T (a.addF a.spare)) := hb.ts.addF (by omega) (fun _ => by omega)
 have HE := hid (addF_old hs)
 have HP : Hid (0 < (a.addF a.spare).n) := by show 0 < _;rw [addF_old hs];exact hb.pos
 have c0 := hb.h0
 have c1 := hb.h1
 have hsz : (a.spare : Int) < (a.n : Int) := by omega
 have hnz : (a.n : Int) ≤ 32 := by omega
 have hse : ((a.spare : Int) == 32) = false := by rw [beq_eq_false_iff_ne];omega
 have hse2 : ((a.spare : Int) == (a.n : Int)) = false := by rw [beq_eq_false_iff_ne];omega
 clear h hb h4
 generalize a.spare = s at *
 go_enter Tryz.func87,Tryz.ntmps87
 go_wp2_with (first
  | (go_at_call 140;(with_reducible refine HS.out.mono ?_);rintro e w' ⟨rfl,rfl⟩)
  | (go_at_call 142;(with_reducible refine HR.out.mono ?_);rintro e w2 ⟨rfl,hc,hk⟩;have HC := hid hc;have HK := hid hk;clear hc hk))
 go_ret
 rw [HE.out] at HG HT HP ⊢
 exact ⟨rfl,⟨HG.out,.inr ⟨_,_,_,_,_,_,_,HC.out.big HT.out HP.out⟩⟩,HK.out⟩
theorem add_new (h : ArAt w G d a) (hnew : ∀ k,w.heap.size ≤ k → G k) (h0 : 0 < a.n) (hs : a.spare = a.n) (h32 : a.n < 32) : Calls Tryz.prog 87 #[.pointer (some ⟨d,0,none⟩)] w (APost G d w (.int .i64 (a.spare : Int)) (a.addF a.spare)) := by
 have hn := h.good.n
 obtain ⟨g,cap,dl,Dl,dt,Dt,T,hb⟩ := ArAt.big h h0
 have HS := hid (spare_big hb hn)
 have HG := hid (h.good.addF (by omega))
 have HT : Hid (Tabs T (a.addF a.spare)) := hb.ts.addF (by omega) (fun _ => by omega)
 have HP : Hid (0 < (a.addF a.spare).n) := by show 0 < _;rw [hs,addF_more];exact Nat.succ_pos _
 rw [hs] at HS HG HT HP ⊢
 obtain ⟨g',cap',w1,hr,hf,hk,hg⟩ := more_frame (v := .slice (some ⟨g,0,none⟩) a.n cap) (.inr ⟨g,cap,rfl,hb.fr,hb.inG.2.1⟩) (by omega)
 have HR := hid hr
 have hne := hb.ne
 have hd1 := hb.hd.kept hk (fun e => by injection e with e;exact hne.dg e.symm)
 have c0 := hb.h0
 have e0 : w1.cell? ⟨d,0,none⟩ = some (.slice (some ⟨g,0,none⟩) a.n cap) := hd1.cell (i := 0) (by omega)
 have fz := hd1.frozen 0
 have hnz : (a.n : Int) < 32 := by omega
 have hse : ((a.n : Int) == 32) = false := by rw [beq_eq_false_iff_ne];omega
 have HC2 : Hid (Core (w1.setCell ⟨d,0,none⟩ (.slice (some ⟨g',0,none⟩) (a.n + 1) cap')) G d g' cap' dl Dl dt Dt T ⟨a.n + 1,upd a.F a.n ⟨0,0,0,false⟩,a.B,a.Q⟩) := by
  have hlt := hb.lt
  have hg' : (g = g' ∨ w.heap.size ≤ g') := hg.imp_left fun e => by injection e
  have hk2 := kept_set w1 d 0 (.slice (some ⟨g',0,none⟩) (a.n + 1) cap')
  have hnd : d ≠ g' := by rcases hg' with e | e;exact e ▸ hne.dg;omega
  obtain ⟨i0,i1,i2,i3,i4,i5⟩ := hb.inG
  refine ⟨(hd1.set 0 _).congr fun i hi => ?_,OR.kept hf hk2 hnd.symm,(hb.li.kept hk fun k x y => ?_).kept hk2 fun k x y => ?_,TabC.Raw.kept (TabC.Raw.kept hb.ta hk fun k x y => ?_) hk2 fun k x y => ?_,?_,⟨i0,?_,i2,i3,i4,i5⟩⟩
  ·show (if i = 0 then _ else acell _ _ _ _ i) = acell _ _ _ _ i
   unfold acell
   by_cases e : i = 0
   ·rw [if_pos e,if_pos e]
   ·rw [if_neg e,if_neg e,if_neg e]
  ·injection x with x
   subst x
   rcases y with y | y
   ·exact hne.gdl y
   ·exact hne.gDl y
  ·subst x
   rcases y with y | y
   ·exact hne.ddl y
   ·exact hne.dDl y
  ·injection x with x
   subst x
   rcases y with y | y
   ·exact hne.gdt y
   ·exact hne.gDt y
  ·subst x
   rcases y with y | y
   ·exact hne.ddt y
   ·exact hne.dDt y
  ·rcases hg' with e | e
   ·subst e;exact hne
   ·exact ⟨hnd,hne.ddl,hne.dDl,hne.ddt,hne.dDt,by omega,by omega,by omega,by omega,hne.ldt,hne.lDt,hne.Ldt,hne.LDt⟩
  ·rcases hg' with e | e
   ·subst e;exact i1
   ·exact hnew _ e
 have HK2 : Hid (Kept G w (w1.setCell ⟨d,0,none⟩ (.slice (some ⟨g',0,none⟩) (a.n + 1) cap'))) := (hk.mono fun k _ e => by injection e with e;subst e;exact hb.inG.2.1).trans ((kept_set w1 d 0 _).mono fun k _ e => by subst e;exact hb.inG.1)
 have HQ : Hid (a.n ∉ a.Q) := fun hm => by have := (h.good.q _).1 hm;omega
 have HFN := hid (addF_n a ⟨0,0,0,false⟩)
 clear hr h hb hk hf hg hne hd1
 go_enter Tryz.func87,Tryz.ntmps87
 go_upto_region 8 with (first
  | (go_at_call 140;(with_reducible refine HS.out.mono ?_);rintro e w' ⟨rfl,rfl⟩)
  | (at_builtin;refine Lib.wpList_append_run _ rfl _ _ _ _ rfl _ _ rfl rfl _ _ (HR.out _) ?_))
 clear c0 e0 fz HR HS
 generalize w1.setCell ⟨d,0,none⟩ (.slice (some ⟨g',0,none⟩) (a.n + 1) cap') = w2 at HC2 HK2 ⊢
 have c1 := HC2.out.h1
 have HRE := hid (release_any HC2.out h32 a.n (Nat.lt_succ_self _) HQ.out)
 rw [HFN.out] at HRE
 go_wp2_with (go_at_call 142;(with_reducible refine HRE.out.mono ?_);rintro e w3 ⟨rfl,hc,hk⟩;have HC := hid hc;have HK := hid hk;clear hc hk)
 go_ret
 exact ⟨rfl,⟨HG.out,.inr ⟨_,_,_,_,_,_,_,HC.out.big HT.out HP.out⟩⟩,HK2.out.trans HK.out⟩
theorem add_first (h : Nil w G d a) (hgd : ArM.Good a) (hnew : ∀ k,w.heap.size ≤ k → G k) : Calls Tryz.prog 87 #[.pointer (some ⟨d,0,none⟩)] w (APost G d w (.int .i64 0) (a.addF 0)) := by
 have hz := h.zero
 have hq := hgd.empty hz
 have hsp : a.spare = 0 := by have := spare_le (a := a);omega
 have HS := hid (spare_none h)
 have HG := hid (hgd.addF (by omega))
 rw [hsp] at HG
 have HP : Hid (0 < (a.addF 0).n) := by show 0 < (if 0 < a.n then a.n else 0 + 1);rw [if_neg (by omega)];omega
 have HT : Hid (Tabs (TabM.fresh 64) (a.addF 0)) := Tabs.none (by omega) fun x hx => by
  show (upd a.F 0 fFree x).st ≠ 1
  have hx : x < (if 0 < a.n then a.n else 0 + 1) := hx
  rw [if_neg (by omega)] at hx
  obtain rfl : x = 0 := by omega
  rw [upd_same]
  show (0 : Int) ≠ 1
  omega
 obtain ⟨g',cap',w1,hr,hf,hk,hg⟩ := more_frame (w := w) (G := G) (v := .slice none 0 0) (n := 0) (F := a.F) (.inl ⟨rfl,rfl⟩) (by omega)
 have HR := hid hr
 have hgr : Grow w w1 := hk.mono fun k _ e => by cases e
 have hg' : w.heap.size ≤ g' := by rcases hg with e | e;cases e;exact e
 have hd1 := h.hd.kept hgr (fun x => x)
 have c0 := h.h0
 have e0 : w1.cell? ⟨d,0,none⟩ = some (.slice none 0 0) := hd1.cell (i := 0) (by omega)
 have fz := hd1.frozen 0
 have HD : Hid (Row (w1.setCell ⟨d,0,none⟩ (.slice (some ⟨g',0,none⟩) 1 cap')) d 515 (acell (.slice (some ⟨g',0,none⟩) 1 cap') a.B (.pointer none) (.pointer none))) := (hd1.set 0 _).congr fun i hi => by
  show (if i = 0 then _ else acell _ _ _ _ i) = acell _ _ _ _ i
  unfold acell
  by_cases e : i = 0
  ·rw [if_pos e,if_pos e]
  ·rw [if_neg e,if_neg e,if_neg e]
 have hk2 := kept_set w1 d 0 (.slice (some ⟨g',0,none⟩) 1 cap')
 have hlt := h.hd.lt
 have HF : Hid (FR (w1.setCell ⟨d,0,none⟩ (.slice (some ⟨g',0,none⟩) 1 cap')) g' cap' 1 (upd a.F 0 ⟨0,0,0,false⟩)) := OR.kept hf hk2 (by omega)
 have HK2 : Hid (Kept (· = d) w (w1.setCell ⟨d,0,none⟩ (.slice (some ⟨g',0,none⟩) 1 cap'))) := hgr.kept.trans hk2
 have HGD := hid h.inG
 clear hr h hk hf hg hd1 hgr hk2
 go_enter Tryz.func87,Tryz.ntmps87
 go_upto_region 8 with (first
  | (go_at_call 140;(with_reducible refine HS.out.mono ?_);rintro e w' ⟨rfl,rfl⟩)
  | (at_builtin;refine Lib.wpList_append_run _ rfl _ _ _ _ rfl _ _ rfl rfl _ _ (HR.out _) ?_))
 clear c0 e0 fz HR HS
 generalize w1.setCell ⟨d,0,none⟩ (.slice (some ⟨g',0,none⟩) 1 cap') = w2 at HD HF HK2 ⊢
 have c1 : w2.cell? ⟨d,513,none⟩ = some (.pointer none) := HD.out.cell (i := 513) (by omega)
 have HL0 := hid (ListD.new_good (w := w2) 32 (by omega))
 have HT0 : Hid (∀ wx,Calls Tryz.prog 141 #[.int .i64 ((64 : Nat) : Int)] wx (TabO.NewPost 64 wx)) := fun wx => TabO.new_good 64 (by omega) (by omega)
 simp only [Int.cast_ofNat_Int] at HL0 HT0
 go_upto_region 10 with (first
  | (go_at_call 38;(with_reducible refine HL0.out.mono ?_);rintro e w3 ⟨dl,Dl,rfl,hl,b1,b2,hg⟩;have HL := hid hl;have HB1 := hid (And.intro b1 b2);have HG3 := hid hg;clear hl b1 b2 hg c1)
  | (go_at_call 141;(with_reducible refine (HT0.out _).mono ?_);rintro e w4 ⟨dt,Dt,rfl,ht,b1,b2,hg⟩;have HTA := hid ht;have HB2 := hid (And.intro b1 b2);have HG4 := hid hg;clear ht b1 b2 hg;have HD4 := hid ((HD.out.kept HG3.out (fun x => x)).kept HG4.out (fun x => x));have c2 : w4.cell? ⟨d,513,none⟩ = some (.pointer none) := HD4.out.cell (i := 513) (by omega);have c3 : w4.cell? ⟨d,514,none⟩ = some (.pointer none) := HD4.out.cell (i := 514) (by omega);have fz := HD4.out.frozen))
 have HC5 : Hid (Core ((w4.setCell ⟨d,513,none⟩ (.pointer (some ⟨dl,0,none⟩))).setCell ⟨d,514,none⟩ (.pointer (some ⟨dt,0,none⟩))) G d g' cap' dl Dl dt Dt (TabM.fresh 64) ⟨0 + 1,upd a.F 0 ⟨0,0,0,false⟩,a.B,[]⟩) := by
  have l1 := HF.out.lt
  have l2 := HD.out.lt
  have l3 := HL.out.lt
  obtain ⟨l4,l5⟩ := TabC.Raw.lt HTA.out
  obtain ⟨b1,b2⟩ := HB1.out
  obtain ⟨b3,b4⟩ := HB2.out
  have z1 := HG3.out.size
  have z2 := HG4.out.size
  have z0 := HK2.out.size
  have k5 : Kept (· = d) w4 ((w4.setCell ⟨d,513,none⟩ (.pointer (some ⟨dl,0,none⟩))).setCell ⟨d,514,none⟩ (.pointer (some ⟨dt,0,none⟩))) := (kept_set _ _ _ _).trans (kept_set _ _ _ _)
  refine ⟨((HD4.out.set 513 _).set 514 _).congr fun i hi => ?_,OR.kept ((HF.out.grow HG3.out).grow HG4.out) k5 (by omega),(HL.out.grow HG4.out).kept k5 fun k x y => ?_,TabC.Raw.kept HTA.out k5 fun k x y => ?_,⟨by omega,by omega,by omega,by omega,by omega,by omega,by omega,by omega,by omega,by omega,by omega,by omega,by omega⟩,⟨HGD.out,hnew _ (by omega),hnew _ (by omega),hnew _ (by omega),hnew _ (by omega),hnew _ (by omega)⟩⟩
  ·show (if i = 514 then _ else if i = 513 then _ else acell _ _ _ _ i) = acell _ _ _ _ i
   unfold acell
   by_cases e : i = 514
   ·subst e;rfl
   ·rw [if_neg e]
    by_cases e2 : i = 513
    ·subst e2;rfl
    ·rw [if_neg e2]
     by_cases e0 : i = 0
     ·rw [if_pos e0,if_pos e0]
     ·rw [if_neg e0,if_neg e0,if_pos (by omega),if_pos (by omega)]
  ·subst x
   rcases y with y | y <;> omega
  ·subst x
   rcases y with y | y <;> omega
 have HK5 : Hid (Kept (· = d) w ((w4.setCell ⟨d,513,none⟩ (.pointer (some ⟨dl,0,none⟩))).setCell ⟨d,514,none⟩ (.pointer (some ⟨dt,0,none⟩)))) := (((HK2.out.trans HG3.out.kept).trans HG4.out.kept).trans (kept_set _ _ _ _)).trans (kept_set _ _ _ _)
 clear c2 c3 fz HD4 HD HF HL HTA HT0 HL0
 generalize (w4.setCell ⟨d,513,none⟩ (.pointer (some ⟨dl,0,none⟩))).setCell ⟨d,514,none⟩ (.pointer (some ⟨dt,0,none⟩)) = w5 at HC5 HK5 ⊢
 have HFN : Hid ((⟨0 + 1,upd a.F 0 ⟨0,0,0,false⟩,a.B,[]⟩ : Ar).dropF 0 = a.addF 0) := by
  have := addF_n a ⟨0,0,0,false⟩
  rw [hz,hq] at this
  exact this
 have HRE := hid (release_any HC5.out (by show 0 + 1 ≤ 32;omega) 0 (Nat.lt_succ_self _) (by simp))
 rw [HFN.out] at HRE
 simp only [Int.natCast_zero] at HRE
 go_wp2_with (go_at_call 142;(with_reducible refine HRE.out.mono ?_);rintro e w6 ⟨rfl,hc,hk⟩;have HC := hid hc;have HK := hid hk;clear hc hk)
 go_ret
 exact ⟨rfl,⟨HG.out,.inr ⟨_,_,_,_,_,_,_,HC.out.big HT.out HP.out⟩⟩,(HK5.out.mono fun k _ e => by subst e;exact HGD.out).trans HK.out⟩
theorem add_any (h : ArAt w G d a) (hnew : ∀ k,w.heap.size ≤ k → G k) : Calls Tryz.prog 87 #[.pointer (some ⟨d,0,none⟩)] w (APost G d w (.int .i64 a.addC) a.add) := by
 have hn := h.good.n
 have hle := spare_le (a := a)
 by_cases h32 : a.spare < 32
 ·have e1 : a.addC = (a.spare : Int) := by unfold Ar.addC;rw [if_pos h32]
  have e2 : a.add = a.addF a.spare := by unfold Ar.add;rw [if_pos h32]
  rw [e1,e2]
  by_cases h1 : a.spare < a.n
  ·exact add_old h h1
  ·have hs : a.spare = a.n := by omega
   rcases h.mem with h' | ⟨g,cap,dl,Dl,dt,Dt,T,hb⟩
   ·rw [hs,h'.zero]
    exact add_first h' h.good hnew
   ·exact add_new h hnew hb.pos hs (by omega)
 ·have e1 : a.addC = -1 := by unfold Ar.addC;rw [if_neg h32]
  have e2 : a.add = a := by unfold Ar.add;rw [if_neg h32]
  rw [e1,e2]
  exact (add_full h h32).mono fun e w' ⟨h1,h2⟩ => ⟨h1,h2 ▸ h,h2 ▸ Kept.refl _ _⟩
end
end ArA
namespace ArN
open Go.ChangeShapes Go.WideShapes Go.ChangeAt Go.RowKit
open Mem Blk Cells Orow GsC TabM ArM ArC ArD ArB ArA Stages
def zcell : Nat → Value := acell (.slice none 0 0) (fun _ => zeros) (.pointer none) (.pointer none)
theorem zero_arena : (Tryz.prog.info? 126).map (fun i => i.zero) = some (some (.agg ((List.range 515).map zcell).toArray)) := by kernel_rfl
set_option maxRecDepth 100000 in
theorem run_zero : ∃ cs : Array Value,(∀ w,(zeroValue 126).run Tryz.prog w = .ok (.agg cs) w) ∧ cs.size = 515 ∧ ∀ i,i < 515 → cs[i]? = some (zcell i) := by
 have h := zero_arena
 refine ⟨((List.range 515).map zcell).toArray,fun w => ?_,by simp,fun i hi => by simp [hi]⟩
 generalize ((List.range 515).map zcell).toArray = cs at h ⊢
 cases e : Tryz.prog.info? 126 with
 | none => rw [e] at h;cases h
 | some i =>
  rw [e] at h
  injection h with h
  simp [zeroValue,typeInfo,e,h]
section
variable {w w' : World} {G H F : Nat → Prop} {d g cap dl Dl dt Dt : Nat} {T : Tb} {a : Ar}
theorem new_bad (k : Int) (hk : ¬ (0 ≤ k ∧ k ≤ 32)) : Calls Tryz.prog 36 #[.int .i64 k] w fun e w' => e = .returned (.pointer none) ∧ w = w' := by
 by_cases h0 : k < 0
 ·clear hk
  go_enter Tryz.func36,Tryz.ntmps36
  go_wp2
  go_ret
  exact ⟨rfl,rfl⟩
 ·have h1 : 32 < k := by omega
  clear hk
  go_enter Tryz.func36,Tryz.ntmps36
  go_wp2
  go_ret
  exact ⟨rfl,rfl⟩
def NewPost (n : Nat) (w : World) (e : Ending) (w' : World) : Prop := e = .returned (.pointer (some ⟨w.heap.size,0,none⟩)) ∧ ArAt w' (w.heap.size ≤ ·) w.heap.size (ArM.fresh n) ∧ Grow w w'
theorem new_good (n : Nat) (hn : n ≤ 32) : Calls Tryz.prog 36 #[.int .i64 (n : Int)] w (NewPost n w) := by
 have hnz : (n : Int) ≤ 32 := by omega
 obtain ⟨cs,hcs,hsz,hcell⟩ := run_zero
 have HCE := hid hcell
 have HSZ := hid hsz
 clear hsz hcell
 go_enter Tryz.func36,Tryz.ntmps36
 go_wp2
 have HA0 : Hid (ArAt (w.alloc (.cells cs 126)) (w.heap.size ≤ ·) w.heap.size (ArM.fresh 0)) := by
  refine ⟨good_fresh (by omega),.inl ⟨⟨cs,_,heap_alloc_new w _,by rw [HSZ.out];omega,HCE.out⟩,Nat.le_refl _,rfl⟩⟩
 have HG0 : Hid (Grow w (w.alloc (.cells cs 126))) := (Kept.refl _ _).alloc _
 generalize w.alloc (.cells cs 126) = w1 at HA0 HG0 ⊢
 clear hcs HCE HSZ
 obtain ⟨B,hB⟩ : ∃ B,B = w.heap.size := ⟨_,rfl⟩
 have HB := hid hB
 unfold NewPost
 rw [← hB] at HA0 ⊢
 clear hB
 go_loopg [13] n (fun gx i wr => ∃ j : Nat,j + gx = n ∧ i = .int .i64 (j : Int) ∧ ArAt wr (B ≤ ·) B (ArM.fresh j) ∧ Grow w wr)
 case atStart => exact ⟨0,by omega,rfl,HA0.out,HG0.out⟩
 case round =>
  obtain ⟨j,hg,rfl,har,hgr⟩ := hrel
  have HG := hid hg
  have HAR := hid har
  have HGR := hid hgr
  clear hg har hgr
  by_cases hj : j < n
  ·have hjz : (j : Int) < (n : Int) := by omega
   have HADD := hid (add_any HAR.out fun k hk => by have h1 := HGR.out.size;have h2 := HB.out;omega)
   obtain ⟨e1,e2⟩ := fresh_add (n := j) (by omega)
   rw [e1,e2] at HADD
   clear e1 e2
   go_wp2_with (go_at_call 87;(with_reducible refine HADD.out.mono ?_);rintro e w2 ⟨rfl,ha,hk⟩;have HA2 := hid ha;have HK2 := hid hk;clear ha hk)
   go_roundg (gk - 1)
   case measure => have := HG.out;omega
   case rel => exact ⟨j + 1,by have := HG.out;omega,by go_num,HA2.out,HGR.out.then HK2.out fun k hk e => by have := HB.out;omega⟩
  ·obtain rfl : j = n := by have := HG.out;omega
   go_wp2
   go_ret
   unfold NewPost
   rw [← HB.out]
   exact ⟨rfl,HAR.out,HGR.out⟩
end
end ArN
namespace HdN
open Go.ChangeShapes Go.WideShapes Go.ChangeAt Go.RowKit
open Mem Blk Cells Orow HdM HdC Stages Trees
theorem infoI : (Tryz.prog.info? 3).map (fun i => (i.zero,i.size,i.bytes)) = some (some (.int .i64 0),1,8) := by kernel_rfl
theorem infoS : (Tryz.prog.info? 33).map (fun i => (i.zero,i.size,i.bytes)) = some (some (.slice none 0 0),1,24) := by kernel_rfl
theorem sizeI : (Tryz.prog.info? 3).map (·.size) = some 1 := by kernel_rfl
theorem mul64_any (w : World) : Calls Tryz.prog 166 #[.int .u64 1,.int .u64 6] w fun e w' => e = .returned (.tuple #[.int .u64 0,.int .u64 6]) ∧ w = w' := by
 go_enter Tryz.func166,Tryz.ntmps166
 go_wp2
 go_ret2
 exact ⟨rfl,rfl⟩
theorem mul_any (w : World) : Calls Tryz.prog 124 #[.int .u64 1,.int .u64 6] w fun e w' => e = .returned (.tuple #[.int .u64 0,.int .u64 6]) ∧ w = w' := by
 go_enter Tryz.func124,Tryz.ntmps124
 go_wp2_with (go_at_call 166;(with_reducible refine (mul64_any _).mono ?_);rintro e w' ⟨rfl,rfl⟩)
 go_ret2
 exact ⟨rfl,rfl⟩
def zs (q : Nat) : List Int := List.replicate q (-1) ++ List.replicate (6 - q) 0
section
variable {w w' : World} {g b q m : Nat}
theorem rep_first (h : NBlk w g 3 .i64 (zs 0)) {B : Nat} (hx : Sl w B .i64 (some ⟨b,0,none⟩) 1 [-1]) :
  ∃ w',(Builtin.copy_ #[33,33] 3 #[.slice (some ⟨g,0,none⟩) 6 6,.slice (some ⟨b,0,none⟩) 1 1]).run Tryz.prog w = .ok (.int .i64 1) w' ∧ NBlk w' g 3 .i64 (zs 1) ∧ Kept (· = g) w w' :=
 run_copy (P := Tryz.prog) 33 33 3 3 Tryz.underlying33 sizeI h 0 6 6 1 hx 1 (by decide) (by decide)
theorem rep_next (h : NBlk w g 3 .i64 (zs q)) (hq : q ≤ 6) (hm : Nat.min q (6 - q) = m) (he : (zs q).take q ++ ((((zs q).drop 0).take q).take m ++ (zs q).drop (q + m)) = zs (q + m)) :
  ∃ w',(Builtin.copy_ #[33,33] 3 #[.slice (some ⟨g,q,none⟩) (6 - q) (6 - q),.slice (some ⟨g,0,none⟩) q 6]).run Tryz.prog w = .ok (.int .i64 (m : Int)) w' ∧ NBlk w' g 3 .i64 (zs (q + m)) ∧ Kept (· = g) w w' := by
 have hl : (zs q).length = 6 := by unfold zs;rw [List.length_append,List.length_replicate,List.length_replicate];omega
 have hsl := Sl.of_blk (B := w.heap.size) h 0 q (by omega) h.lt
 have hfit : q + m ≤ (zs q).length := by rw [hl];have := Nat.min_le_right q (6 - q);rw [show Nat.min q (6 - q) = min q (6 - q) from rfl] at hm;omega
 obtain ⟨w',h1,h2,h3⟩ := run_copy (P := Tryz.prog) 33 33 3 3 Tryz.underlying33 sizeI h q (6 - q) (6 - q) 6 hsl m hm hfit
 rw [he] at h2
 exact ⟨w',h1,h2,h3⟩
theorem or_of (h : NBlk w g 3 .i64 (zs 6)) : OR w g 3 1 6 6 (hcell fun _ => -1) := by
 refine ⟨_,h,rfl,Nat.le_refl _,by unfold maxLen;omega,fun i hi => ?_⟩
 have : i = 0 ∨ i = 1 ∨ i = 2 ∨ i = 3 ∨ i = 4 ∨ i = 5 := by omega
 rcases this with rfl | rfl | rfl | rfl | rfl | rfl <;> rfl
theorem made6 (w : World) : (Instr.makeSlice 33 (.int .i64 6) (.int .i64 6)).run Tryz.prog w = .ok (.slice (some ⟨w.heap.size,0,none⟩) 6 6) (w.alloc (.cells (madeCells #[.int .i64 0] 6) 3)) := by
 obtain ⟨i,hi,hz,hs,hb⟩ := info_parts infoI
 have := run_make (P := Tryz.prog) w 33 3 i _ Tryz.underlying33 hi hz .i64 .i64 6 6 (by omega) (Int.le_refl _) (by rw [hb];omega) (by omega)
 rw [hs,show (6 : Int).toNat = 6 by omega] at this
 exact this
def SixPost (w : World) (e : Ending) (w' : World) : Prop := ∃ g,e = .returned (.slice (some ⟨g,0,none⟩) 6 6) ∧ w.heap.size ≤ g ∧ OR w' g 3 1 6 6 (hcell fun _ => -1) ∧ Grow w w'
theorem six_post (hg : w.heap.size ≤ g) (h : NBlk w' g 3 .i64 (zs 6)) (hk : Kept (· = g) w w') : SixPost w (.returned (.slice (some ⟨g,0,none⟩) 6 6)) w' :=
 ⟨g,rfl,hg,or_of h,hk.mono fun k hk e => by omega⟩
set_option maxHeartbeats 1000000 in
theorem repeat_any {B : Nat} (hx : Sl w B .i64 (some ⟨b,0,none⟩) 1 [-1]) (hB : B ≤ w.heap.size) : Calls Tryz.prog 73 #[.slice (some ⟨b,0,none⟩) 1 1,.int .i64 6] w (SixPost w) := by
 have HX := hid hx
 have HBB := hid hB
 have km := made6
 clear hx hB
 go_enter Tryz.func73,Tryz.ntmps73
 go_upto_region 7 with (go_at_call 124;(with_reducible refine (mul_any _).mono ?_);rintro e w' ⟨rfl,rfl⟩)
 have hb0 : NBlk (w.alloc (.cells (madeCells #[Value.int .i64 0] 6) 3)) w.heap.size 3 .i64 (zs 0) := NBlk.made w 3 .i64 6
 have hg0 : Grow w (w.alloc (.cells (madeCells #[Value.int .i64 0] 6) 3)) := (Kept.refl _ _).alloc _
 have hnew : w.heap.size ≤ w.heap.size := Nat.le_refl _
 clear km
 generalize w.alloc (.cells (madeCells #[Value.int .i64 0] 6) 3) = w1 at hb0 hg0 ⊢
 obtain ⟨g,hgg⟩ : ∃ g,g = w.heap.size := ⟨_,rfl⟩
 rw [← hgg] at hb0 ⊢
 have HGE : Hid (w.heap.size ≤ g) := Nat.le_of_eq hgg.symm
 have hs1 := Blk.Sl.kept HX.out hg0 HBB.out fun _ _ x => x
 obtain ⟨w2,hc2,hb2,hk2⟩ := rep_first hb0 hs1
 have HK2 : Hid (Kept (· = g) w w2) := (Grow.kept hg0).trans hk2
 have HB2 := hid hb2
 clear hb0 hg0 hs1 hb2 hk2 hgg hnew
 go_wp2
 clear hc2
 go_loopg [8] 5 (fun gx i wr => ∃ (q : Nat) (z : Int),q + gx = 6 ∧ i = .int .i64 z ∧ ((q = 1 ∧ z = 1) ∨ (q = 2 ∧ z = 2) ∨ (q = 4 ∧ z = 4) ∨ (q = 6 ∧ z = 6)) ∧ NBlk wr g 3 .i64 (zs q) ∧ Kept (· = g) w wr)
 case atStart => exact ⟨1,1,by omega,rfl,.inl ⟨rfl,rfl⟩,HB2.out,HK2.out⟩
 case round =>
  obtain ⟨q,z,hg,rfl,hq,hb,hk⟩ := hrel
  have HG := hid hg
  have HB := hid hb
  have HK := hid hk
  clear hg hb hk
  rcases hq with ⟨rfl,rfl⟩ | ⟨rfl,rfl⟩ | ⟨rfl,rfl⟩ | ⟨rfl,rfl⟩
  ·obtain ⟨w3,hc,hb,hk⟩ := rep_next (q := 1) (m := 1) (HB.out.drew) (by omega) rfl rfl
   have HB3 : Hid (NBlk w3 g 3 .i64 (zs 2)) := hb
   have HK3 := hid hk
   simp only [Int.cast_ofNat_Int,Nat.reduceSub] at hc
   clear hb hk
   go_upto_region 9 with (fail)
   refine wp_region_stages (Kept (· = g)) (kept_refl _) (kept_trans _) [([0,1,2,3,4,5,6],7)] [8,9] (by kernel_rfl) (by kernel_rfl) ?_
   simp only [selSt,sel,ZmC,ZmN,ZgS,ZgZ]
   refine st_cons fun K1 hK1 => ?_
   repeat (go_big_quiet_step (fail))
   refine wpQuiet_nil ?_
   go_wp2
   clear hc
   refine norm_up (hK1 _ _ HK3.out (st_nil fun K4 hK4 => ?_))
   clear hK1 K1
   repeat (go_big_quiet_step (fail))
   refine wpQuiet_nil (hK4 _ ?_)
   clear hK4 K4
   go_wp2
   go_roundg 4
   case measure => have := HG.out;omega
   case rel => exact ⟨2,2,by omega,rfl,.inr <| .inl ⟨rfl,rfl⟩,HB3.out,(HK.out.trans (Kept.drew' wr)).trans HK3.out⟩
  ·obtain ⟨w3,hc,hb,hk⟩ := rep_next (q := 2) (m := 2) (HB.out.drew) (by omega) rfl rfl
   have HB3 : Hid (NBlk w3 g 3 .i64 (zs 4)) := hb
   have HK3 := hid hk
   simp only [Int.cast_ofNat_Int,Nat.reduceSub] at hc
   clear hb hk
   go_upto_region 9 with (fail)
   refine wp_region_stages (Kept (· = g)) (kept_refl _) (kept_trans _) [([0,1,2,3,4,5,6],7)] [8,9] (by kernel_rfl) (by kernel_rfl) ?_
   simp only [selSt,sel,ZmC,ZmN,ZgS,ZgZ]
   refine st_cons fun K1 hK1 => ?_
   repeat (go_big_quiet_step (fail))
   refine wpQuiet_nil ?_
   go_wp2
   clear hc
   refine norm_up (hK1 _ _ HK3.out (st_nil fun K4 hK4 => ?_))
   clear hK1 K1
   repeat (go_big_quiet_step (fail))
   refine wpQuiet_nil (hK4 _ ?_)
   clear hK4 K4
   go_wp2
   go_roundg 2
   case measure => have := HG.out;omega
   case rel => exact ⟨4,4,by omega,rfl,.inr <| .inr <| .inl ⟨rfl,rfl⟩,HB3.out,(HK.out.trans (Kept.drew' wr)).trans HK3.out⟩
  ·obtain ⟨w3,hc,hb,hk⟩ := rep_next (q := 4) (m := 2) (HB.out.drew) (by omega) rfl rfl
   have HB3 : Hid (NBlk w3 g 3 .i64 (zs 6)) := hb
   have HK3 := hid hk
   simp only [Int.cast_ofNat_Int,Nat.reduceSub] at hc
   clear hb hk
   go_upto_region 9 with (fail)
   refine wp_region_stages (Kept (· = g)) (kept_refl _) (kept_trans _) [([0,1,2,3,4,5,6],7)] [8,9] (by kernel_rfl) (by kernel_rfl) ?_
   simp only [selSt,sel,ZmC,ZmN,ZgS,ZgZ]
   refine st_cons fun K1 hK1 => ?_
   repeat (go_big_quiet_step (fail))
   refine wpQuiet_nil ?_
   go_wp2
   clear hc
   refine norm_up (hK1 _ _ HK3.out (st_nil fun K4 hK4 => ?_))
   clear hK1 K1
   repeat (go_big_quiet_step (fail))
   refine wpQuiet_nil (hK4 _ ?_)
   clear hK4 K4
   go_wp2
   go_roundg 0
   case measure => have := HG.out;omega
   case rel => exact ⟨6,6,by omega,rfl,.inr <| .inr <| .inr ⟨rfl,rfl⟩,HB3.out,(HK.out.trans (Kept.drew' wr)).trans HK3.out⟩
  ·go_wp2
   go_ret
   exact six_post HGE.out HB.out HK.out
end
end HdN
namespace HdA
open Go.ChangeShapes Go.WideShapes Go.ChangeAt Go.RowKit
open Mem Blk Cells Orow HdM HdC HdO HdN Stages Trees
section
variable {w w' w2 w3 : World} {G F X : Nat → Prop} {v : Value} {n d b cb c r g cap vb : Nat} {q cp : Nat → Nat} {H : Nat → Nat → Int} {a : Hs} {f : Nat → Int}
def up (q : Nat → Nat) (n r : Nat) (i : Nat) : Nat := if i = n then r else q i
theorem up_same {q : Nat → Nat} : up q n r n = r := if_pos rfl
theorem up_other {q : Nat → Nat} {i : Nat} (h : i < n) : up q n r i = q i := if_neg (by omega)
def rcell (r c : Nat) (_ : Nat) : Value := .slice (some ⟨r,0,none⟩) 6 c
theorem Gr.app (h : Gr w G v n q cp H) (hn : n ≤ 1000) (hx : w.cell? ⟨vb,0,none⟩ = some (.slice (some ⟨r,0,none⟩) 6 c)) :
  ∃ g cap w',(∀ ty,(Builtin.append_ #[48,48] ty #[v,.slice (some ⟨vb,0,none⟩) 1 1]).run Tryz.prog w = .ok (.slice (some ⟨g,0,none⟩) (n + 1) cap) w') ∧ OR w' g 33 1 cap (n + 1) (joined (scell q cp) (rcell r c) (n * 1)) ∧ Kept (fun k => v.ownBlock = some k) w w' ∧ (v.ownBlock = some g ∨ g = w.heap.size) := by
 obtain ⟨i,hi,hz,hs,hb⟩ := info_parts infoS
 obtain ⟨g,cap,w',h1,h2,h3,h4⟩ := append_or (P := Tryz.prog) 48 3 i _ 24 Tryz.underlying48 hi hz hs hb rfl (by omega) h.out (by omega) (by omega) vb 1 (u := rcell r c) (fun j hj => by
  have : j = 0 := by omega
  subst this
  exact hx) (fun j hj => rfl)
 exact ⟨g,cap,w',fun ty => h1,h2,h3,h4⟩
theorem Gr.push (h : Gr w G v n q cp H) (hr : OR w r 3 1 c 6 (hcell (H n))) (hG : G r) (hnr : ∀ i,i < n → q i ≠ r) (hvr : v.ownBlock ≠ some r)
  (ho : OR w' g 33 1 cap (n + 1) (joined (scell q cp) (rcell r c) (n * 1))) (hk : Kept (fun k => v.ownBlock = some k) w w') (hg : v.ownBlock = some g ∨ g = w.heap.size) (hnew : ∀ k,w.heap.size ≤ k → G k) :
  Gr w' G (.slice (some ⟨g,0,none⟩) (n + 1) cap) (n + 1) (up q n r) (up cp n c) H := by
 have hgG : G g := by
  rcases hg with e | e
  ·exact (os_in h.out e).1
  ·exact hnew _ (by omega)
 have hgr : g ≠ r := by
  rcases hg with e | e
  ·rintro rfl;exact hvr e
  ·have := hr.lt;omega
 refine ⟨.inr ⟨g,cap,rfl,ho.congr fun i hi => ?_,hgG⟩,fun i hi => ?_,fun i hi => ?_,fun i hi => ?_,fun i j hi hj e => ?_⟩
 ·unfold joined
  by_cases e : i < n
  ·rw [if_pos (by omega)]
   unfold scell
   rw [up_other e,up_other e]
  ·have : i = n := by omega
   subst this
   rw [if_neg (by omega)]
   unfold scell
   rw [up_same,up_same];rfl
 ·by_cases e : i < n
  ·rw [up_other e,up_other e]
   exact (h.row i e).kept hk (h.off i e)
  ·have : i = n := by omega
   subst this
   rw [up_same,up_same]
   exact hr.kept hk hvr
 ·by_cases e : i < n
  ·rw [up_other e];exact h.inG i e
  ·have : i = n := by omega
   subst this
   rw [up_same];exact hG
 ·show some g ≠ some (up q n r i)
  rintro e2
  injection e2 with e2
  by_cases e : i < n
  ·rw [up_other e] at e2
   rcases hg with x | x
   ·exact h.off i e (e2 ▸ x)
   ·have := (h.row i e).lt;omega
  ·have : i = n := by omega
   subst this
   rw [up_same] at e2
   exact hgr e2
 ·by_cases e1 : i < n
  ·by_cases e2 : j < n
   ·rw [up_other e1,up_other e2] at e
    exact h.ne i j e1 e2 e
   ·have : j = n := by omega
    subst this
    rw [up_other e1,up_same] at e
    exact absurd e (hnr i e1)
  ·have : i = n := by omega
   subst this
   by_cases e2 : j < i
   ·rw [up_other e2,up_same] at e
    exact absurd e.symm (hnr j e2)
   ·omega
theorem gr_nil (w : World) (G : Nat → Prop) (q cp : Nat → Nat) (H : Nat → Nat → Int) : Gr w G (.slice none 0 0) 0 q cp H :=
 ⟨.inl ⟨rfl,rfl⟩,fun i hi => absurd hi (Nat.not_lt_zero i),fun i hi => absurd hi (Nat.not_lt_zero i),fun i hi => absurd hi (Nat.not_lt_zero i),fun i _ hi => absurd hi (Nat.not_lt_zero i)⟩
end
end HdA
namespace HdF
open Go.ChangeShapes Go.WideShapes Go.ChangeAt Go.RowKit
open Mem Blk Cells Orow HdM HdC HdO HdN HdA Stages Trees
section
variable {w w' w2 w3 : World} {G F X : Nat → Prop} {v : Value} {n d b cb c r g cap vb j : Nat} {q cp : Nat → Nat} {H : Nat → Nat → Int} {a : Hs}
structure Nu (w : World) (G : Nat → Prop) (d j : Nat) (v : Value) (q cp : Nat → Nat) : Prop where
 hd : Row w d 1 (fun _ => v)
 gr : Gr w G v j q cp (fun _ _ => -1)
 inG : G d
 off : v.ownBlock ≠ some d
 ne : ∀ i,i < j → q i ≠ d
theorem Nu.at_ (h : Nu w G d j v q cp) (hj : j ≤ 6) : HAt w G d (fresh j) := ⟨good_fresh hj,v,q,cp,h.hd,h.gr,h.inG,h.off,h.ne⟩
theorem Nu.kept (h : Nu w G d j v q cp) (hk : Kept F w w') (hF : ∀ k,G k → ¬ F k) : Nu w' G d j v q cp := ⟨h.hd.kept hk (hF _ h.inG),h.gr.kept hk hF,h.inG,h.off,h.ne⟩
theorem Nu.grow (h : Nu w G d j v q cp) (hk : Grow w w') : Nu w' G d j v q cp := h.kept hk fun _ _ x => x
theorem Nu.push (h : Nu w G d j v q cp) (hr : OR w r 3 1 c 6 (hcell fun _ => -1)) (hG : G r) (hnr : ∀ i,i < j → q i ≠ r) (hvr : v.ownBlock ≠ some r) (hdr : d ≠ r)
  (ho : OR w' g 33 1 cap (j + 1) (joined (scell q cp) (rcell r c) (j * 1))) (hk : Kept (fun k => v.ownBlock = some k) w w') (hg : v.ownBlock = some g ∨ g = w.heap.size) (hnew : ∀ k,w.heap.size ≤ k → G k) :
  Nu (w'.setCell ⟨d,0,none⟩ (.slice (some ⟨g,0,none⟩) (j + 1) cap)) G d (j + 1) (.slice (some ⟨g,0,none⟩) (j + 1) cap) (up q j r) (up cp j c) := by
 have hgr := Gr.push h.gr (r := r) (c := c) hr hG hnr hvr ho hk hg hnew
 have hgd : g ≠ d := by
  rcases hg with e | e
  ·rintro rfl;exact h.off e
  ·have := h.hd.lt;omega
 refine ⟨((h.hd.kept hk h.off).set 0 _).congr fun i hi => by rw [if_pos (by omega)],?_,h.inG,fun e => ?_,fun i hi => ?_⟩
 ·have hne : ∀ i,i < j + 1 → up q j r i ≠ d := fun i hi => by
   by_cases e : i < j
   ·rw [up_other e];exact h.ne i e
   ·have : i = j := by omega
    subst this
    rw [up_same];exact hdr.symm
  refine ⟨?_,fun i hi => (hgr.row i hi).other (p := ⟨d,0,none⟩) (hne i hi) _,hgr.inG,hgr.off,hgr.ne⟩
  rcases hgr.out with ⟨e,_⟩ | ⟨g',cap',e,ho',hg'⟩
  ·cases e
  ·injection e with e1 e2 e3
   injection e1 with e1
   injection e1 with e1
   subst e1 e3
   exact .inr ⟨g,cap,rfl,ho'.other (p := ⟨d,0,none⟩) hgd _,hg'⟩
 ·have e : some g = some d := e
  injection e with e
  exact hgd e
 ·by_cases e : i < j
  ·rw [up_other e];exact h.ne i e
  ·have : i = j := by omega
   subst this
   rw [up_same];exact hdr.symm
def NewPost (n : Nat) (w : World) (e : Ending) (w' : World) : Prop := e = .returned (.pointer (some ⟨w.heap.size,0,none⟩)) ∧ HAt w' (w.heap.size ≤ ·) w.heap.size (fresh n) ∧ Grow w w'
def Nx (w : World) (B j : Nat) (wx : World) : Prop := ∃ v q cp,Nu wx (B ≤ ·) B j v q cp ∧ Grow w wx
set_option maxHeartbeats 2000000 in
theorem new_good (n : Nat) (hn1 : 1 ≤ n) (hn : n ≤ 6) : Calls Tryz.prog 37 #[.int .i64 (n : Int)] w (NewPost n w) := by
 have hnz : (n : Int) ≤ 6 := by omega
 have hnz1 : 1 ≤ (n : Int) := by omega
 have HN := hid hn
 clear hn hn1
 go_enter Tryz.func37,Tryz.ntmps37
 go_wp2
 have hb0 : Blk (w.alloc (.cells #[.slice none 0 0] 128)) w.heap.size 128 [.slice none 0 0] := Blk.new w 128 [.slice none 0 0]
 have HG0 : Hid (Grow w (w.alloc (.cells #[.slice none 0 0] 128))) := (Kept.refl _ _).alloc _
 have HA0 : Hid (Nu (w.alloc (.cells #[.slice none 0 0] 128)) (w.heap.size ≤ ·) w.heap.size 0 (.slice none 0 0) id id) :=
  ⟨Row.of_blk hb0 rfl fun i hi => (by
   have : i = 0 := by omega
   subst this;rfl),gr_nil _ _ _ _ _,Nat.le_refl _,fun e => (by cases e),fun i hi => absurd hi (Nat.not_lt_zero i)⟩
 clear hb0
 generalize w.alloc (.cells #[.slice none 0 0] 128) = w1 at HA0 HG0 ⊢
 obtain ⟨B,hB⟩ : ∃ B,B = w.heap.size := ⟨_,rfl⟩
 have HB := hid hB
 unfold NewPost
 rw [← hB] at HA0 ⊢
 clear hB
 go_loopg [13] n (fun gx i wr => ∃ j : Nat,j + gx = n ∧ i = .int .i64 (j : Int) ∧ Nx w B j wr)
 case atStart => exact ⟨0,by omega,rfl,_,_,_,HA0.out,HG0.out⟩
 case round =>
  obtain ⟨j,hg,rfl,v,q,cp,hnu,hgr⟩ := hrel
  have HG := hid hg
  have HNU := hid hnu
  have HGR := hid hgr
  clear hg hnu hgr
  by_cases hj : j < n
  ·have hjz : (j : Int) < (n : Int) := by omega
   have HJ := hid hj
   have c0 := HNU.out.hd.cell (i := 0) (by omega)
   have q0 := up_cell (F := fun k => v.ownBlock = some k) (w := wr.drew) (p := ⟨B,0,none⟩) c0 HNU.out.off
   clear c0 hj
   go_upto_region 6 with (fail)
   refine wp_region_tree (Kept fun k => v.ownBlock = some k) (Kept fun k => v.ownBlock = some k ∨ k = B) (kept_refl _) (kept_trans _) (kept_refl _) (kept_trans _) (fun _ _ h => h.mono fun _ _ x => .inl x) [11]
    (.one true [0,1,2,3,4] 5 (.one true [] 6 (.one true [] 7 (.one true [] 8 (.one false [9,10] 11 (.last false [])))))) (by kernel_rfl) (by kernel_rfl) ?_
   refine tr_oneE fun K hK => ?_
   simp only [sel,ZmC,ZmN,ZgS,ZgZ]
   repeat (go_big_quiet_step (fail))
   refine wpQuiet_nil ?_
   clear q0
   go_wp2
   refine norm_up (hK _ _ (Lr_early (by decide) (show Kept _ wr.drew (wr.alloc (.cells #[.int .i64 (-1)] 3)).drew from (Kept.refl _ wr.drew).alloc (.cells #[.int .i64 (-1)] 3))) ?_)
   clear hK K
   have HX : Hid (NBlk (wr.alloc (.cells #[.int .i64 (-1)] 3)).drew wr.heap.size 3 .i64 [-1]) := Blk.drew (NBlk.new wr 3 .i64 [-1])
   have HG1 : Hid (Grow wr (wr.alloc (.cells #[.int .i64 (-1)] 3)).drew) := ((Kept.refl _ wr).alloc _).drew
   generalize (wr.alloc (.cells #[.int .i64 (-1)] 3)).drew = x1 at HX HG1 ⊢
   have CR := hid (repeat_any (w := x1) (b := wr.heap.size) (Sl.of_blk0 (B := x1.heap.size) HX.out rfl HX.out.lt) (Nat.le_refl _))
   refine tr_oneE fun K hK => ?_
   simp only [sel,ZmC,ZmN,ZgS,ZgZ]
   refine wpQuiet_nil ?_
   go_wp2_with (go_at_call 73;(with_reducible refine CR.out.mono ?_);rintro e x2 ⟨r,rfl,hlt,hrow,hgr⟩;have HLT := hid hlt;have HRO := hid hrow;have HG2 := hid hgr;clear hlt hrow hgr)
   refine norm_up (hK _ _ (Lr_early (by decide) HG2.out.kept) ?_)
   clear hK K CR
   refine tr_oneE fun K hK => ?_
   simp only [sel,ZmC,ZmN,ZgS,ZgZ]
   refine wpQuiet_nil ?_
   go_wp2
   refine norm_up (hK _ _ (Lr_early (by decide) ((Kept.refl _ _).alloc _)) ?_)
   clear hK K
   have HX3 : Hid ((x2.alloc (.cells #[.slice (some ⟨r,0,none⟩) 6 6] 33)).cell? ⟨x2.heap.size,0,none⟩ = some (.slice (some ⟨r,0,none⟩) 6 6)) := cell_new1 _ _ _
   have HG3 : Hid (Grow x2 (x2.alloc (.cells #[.slice (some ⟨r,0,none⟩) 6 6] 33))) := (Kept.refl _ x2).alloc _
   generalize x2.alloc (.cells #[.slice (some ⟨r,0,none⟩) 6 6] 33) = x3 at HX3 HG3 ⊢
   have HN3 := hid (((HNU.out.grow HG1.out).grow HG2.out).grow HG3.out)
   have HR3 := hid (HRO.out.kept HG3.out id)
   obtain ⟨g4,cap4,x4,hr4,ho4,hk4,hb4⟩ := Gr.app HN3.out.gr (by have := HJ.out;have := HN.out;omega) HX3.out
   have HR4 := hid hr4
   have HO4 := hid ho4
   have HK4 := hid hk4
   have HB4 := hid hb4
   clear hr4 ho4 hk4 hb4
   refine tr_oneE fun K hK => ?_
   simp only [sel,ZmC,ZmN,ZgS,ZgZ]
   refine wpQuiet_nil ?_
   go_wp2_with (at_builtin;refine Lib.wpList_append_run _ rfl _ _ _ _ rfl _ _ rfl rfl _ _ (HR4.out _) ?_)
   refine norm_up (hK _ _ (Lr_early (by decide) HK4.out) ?_)
   clear hK K
   have HN5 : Hid (Nu (x4.setCell ⟨B,0,none⟩ (.slice (some ⟨g4,0,none⟩) (j + 1) cap4)) (B ≤ ·) B (j + 1) (.slice (some ⟨g4,0,none⟩) (j + 1) cap4) (up q j r) (up cp j 6)) := by
    have z1 := HG1.out.size
    have z2 := HG2.out.size
    have z3 := HG3.out.size
    have z0 := HGR.out.size
    have zb := HB.out
    have zl := HLT.out
    have zd := HNU.out.hd.lt
    refine HN3.out.push HR3.out ?_ ?_ ?_ ?_ HO4.out HK4.out HB4.out ?_
    ·show B ≤ r;omega
    ·intro i hi e;have := (HNU.out.gr.row i hi).lt;omega
    ·intro e;have := (os_in HNU.out.gr.out e).2;omega
    ·omega
    ·intro k hk;show B ≤ k;omega
   have HK5 : Hid (Grow w (x4.setCell ⟨B,0,none⟩ (.slice (some ⟨g4,0,none⟩) (j + 1) cap4))) := by
    have zb := HB.out
    refine ((((HGR.out.trans HG1.out).trans HG2.out).trans HG3.out).then HK4.out fun k hk e => ?_).setCell (fun h => ?_) _
    ·have := (os_in HNU.out.gr.out e).1;omega
    ·have h : B < w.heap.size := h
     omega
   have cd := HN3.out.hd.kept HK4.out HN3.out.off
   have c0 := cd.cell (i := 0) (by omega)
   have f0 := cd.frozen 0
   clear cd
   refine tr_oneL fun K hK => ?_
   simp only [sel,ZmC,ZmN,ZgS,ZgZ]
   repeat (go_big_quiet_step (fail))
   refine wpQuiet_nil ?_
   go_wp2
   refine norm_up (hK _ _ (Lr_late (by decide) ((kept_set _ _ _ _).mono fun k _ e => .inr e)) ?_)
   clear hK K c0 f0
   refine tr_lastL fun K hK => ?_
   simp only [sel,List.map_nil]
   refine wpQuiet_nil (hK _ ?_)
   clear hK K
   go_wp2
   go_roundg (gk - 1)
   case measure => have := HG.out;omega
   case rel => exact ⟨j + 1,by have := HG.out;have := HJ.out;omega,by go_num,_,_,_,HN5.out,HK5.out⟩
  ·obtain rfl : j = n := by have := HG.out;omega
   go_wp2
   go_ret
   unfold NewPost
   rw [← HB.out]
   exact ⟨rfl,HNU.out.at_ HN.out,HGR.out⟩
end
end HdF
namespace PmU
open Go.ChangeShapes Go.WideShapes Go.ChangeAt Go.RowKit
open Mem Blk Cells Orow GrC MdM MdC MdR MdD PmI PmT Stages Trees
open HdM (lst hnd cnt sum lst_eq hnd_at hnd_none hnd_cases cnt_yes cnt_no cnt_le sum_le)
section
variable {w w0 w1 : World} {G F X : Nat → Prop} {v : Value} {gT cT gB cB gH cH r b c : Nat} {qb cb q cp : Nat → Nat} {a a' : Md} {k : Nat} {p : Int} {zs : List Int}
theorem onPage_good {f : Nat → Re × Md} {p : Nat} (hp : p < a.n) (hT : a.T p = true) : a.onPage (p : Int) f = f p := by
 unfold Md.onPage
 rw [if_neg (by omega),Int.toNat_natCast,if_neg (by rw [hT];simp)]
theorem onHand_bad {f : Nat → Re × Md} {c h : Int} (hh : a.held c h = -1) : a.onHand c h f = (err 5,a) := by
 unfold Md.onHand
 rw [if_pos (by omega)]
theorem onHand_good {f : Nat → Re × Md} {c h : Int} {p : Nat} (hh : a.held c h = (p : Int)) : a.onHand c h f = f p := by
 unfold Md.onHand
 rw [hh,if_neg (by omega),Int.toNat_natCast]
end
end PmU
namespace PmR
open Go.ChangeShapes Go.WideShapes Go.ChangeAt Go.RowKit
open Mem Blk Cells Orow MdM
theorem add_off (b o j : Nat) : (⟨b,o,none⟩ : Addr).add j = ⟨b,o + j,none⟩ := by unfold Addr.add;split <;> simp_all
section
variable {w w' : World} {G F X : Nat → Prop} {v x : Value} {tr te : TypeId} {k : IntKind} {n g cap : Nat} {V : Nat → Value} {L : Nat → List Int}
theorem os_form {t : TypeId} {s : Nat} {f : Nat → Value} (h : OS w G v t s n f) : ∃ A c,v = .slice A n c := by
 rcases h with ⟨rfl,rfl⟩ | ⟨g,cap,rfl,_⟩
 ·exact ⟨_,_,rfl⟩
 ·exact ⟨_,_,rfl⟩
end
end PmR
namespace PmK
open Go.ChangeShapes Go.WideShapes Go.ChangeAt Go.RowKit
open Mem Blk Cells Orow MdM PmR Stages
theorem infoclone_bools : (Tryz.prog.info? 4).map (fun i => (i.zero,i.size,i.bytes)) = some (some (.bool false),1,1) := by kernel_rfl
theorem infoclone_ints : (Tryz.prog.info? 3).map (fun i => (i.zero,i.size,i.bytes)) = some (some (.int .i64 0),1,8) := by kernel_rfl
end PmK
namespace PmV
open Go.ChangeShapes Go.WideShapes Go.ChangeAt Go.RowKit
open Mem Blk Cells Orow GrC MdM MdC MdR MdD PmI PmT PmU PmR PmK Stages Trees
section
variable {w w0 w1 : World} {G F X : Nat → Prop} {v : Value} {gT cT gB cB gH cH r b c n u : Nat} {qb cb q cp : Nat → Nat} {a a' : Md} {k : Nat} {o : MdOp} {D A : Option Addr} {dl dc : Nat} {B zs : List Int}
theorem read_good {p : Nat} (h : fits o.o o.n) : a.read o.o o.n p = (⟨0,0,0,((a.B p).drop o.o.toNat).take o.n.toNat⟩,a) := if_neg (by obtain ⟨h1,h2,h3⟩ := h;omega)
theorem read_bad {p : Nat} (h : ¬ fits o.o o.n) : a.read o.o o.n p = (err 6,a) := if_pos (by unfold fits at h;omega)
theorem write_good {p : Nat} (h : fits o.o (o.d.length : Int)) : a.write o.o o.d p = (err 0,a.putB p (MdM.splice (a.B p) o.o.toNat o.d)) := if_neg (by obtain ⟨h1,h2,h3⟩ := h;omega)
theorem write_bad {p : Nat} (h : ¬ fits o.o (o.d.length : Int)) : a.write o.o o.d p = (err 6,a) := if_pos (by unfold fits at h;omega)
end
end PmV
namespace PmW
open Go.ChangeShapes Go.WideShapes Go.ChangeAt Go.RowKit
open Mem Blk Cells Orow GrC MdM MdC MdR MdD PmI PmT PmU PmV Stages
section
variable {w w0 w1 : World} {G F X : Nat → Prop} {v : Value} {gT cT gB cB gH cH r s : Nat} {qb cb q cp : Nat → Nat} {a a' : Md} {k : Nat} {o : MdOp} {D A : Option Addr} {dl dc n cap : Nat} {zs : List Int}
theorem run_1 (hk : k < a.N) (e : o.k = 1) : a.run (k : Int) o = a.new k := by
 unfold Md.run
 rw [if_neg (by omega),if_pos e]
 rw [Int.toNat_natCast]
theorem run_2 (hk : k < a.N) (e : o.k = 2) : a.run (k : Int) o = a.onPage o.p (a.fetch k) := by
 unfold Md.run
 rw [if_neg (by omega),if_neg (by omega),if_pos e]
 rw [Int.toNat_natCast]
theorem run_3 (hk : k < a.N) (e : o.k = 3) : a.run (k : Int) o = a.onHand (k : Int) o.h (a.read o.o o.n) := by
 unfold Md.run
 rw [if_neg (by omega),if_neg (by omega),if_neg (by omega),if_pos e]
theorem run_4 (hk : k < a.N) (e : o.k = 4) : a.run (k : Int) o = a.onHand (k : Int) o.h (a.write o.o o.d) := by
 unfold Md.run
 rw [if_neg (by omega),if_neg (by omega),if_neg (by omega),if_neg (by omega),if_pos e]
theorem run_5 (hk : k < a.N) (e : o.k = 5) : a.run (k : Int) o = a.onHand (k : Int) o.h fun _ => (err 0,a.putH (k : Int).toNat o.h.toNat (-1)) := by
 unfold Md.run
 rw [if_neg (by omega),if_neg (by omega),if_neg (by omega),if_neg (by omega),if_neg (by omega),if_pos e]
theorem run_6 (hk : k < a.N) (e : o.k = 6) : a.run (k : Int) o = a.onPage o.p fun _ => (err 0,a) := by
 unfold Md.run
 rw [if_neg (by omega),if_neg (by omega),if_neg (by omega),if_neg (by omega),if_neg (by omega),if_neg (by omega),if_pos e]
theorem run_7 (hk : k < a.N) (e : o.k = 7) : a.run (k : Int) o = (err 0,a) := by
 unfold Md.run
 rw [if_neg (by omega),if_neg (by omega),if_neg (by omega),if_neg (by omega),if_neg (by omega),if_neg (by omega),if_neg (by omega),if_pos e]
theorem run_8 (hk : k < a.N) (e : o.k = 8) : a.run (k : Int) o = a.onPage o.p a.del := by
 unfold Md.run
 rw [if_neg (by omega),if_neg (by omega),if_neg (by omega),if_neg (by omega),if_neg (by omega),if_neg (by omega),if_neg (by omega),if_neg (by omega)]
theorem run_none {c : Int} (h1 : ¬ o.k = 1) (h2 : ¬ o.k = 2) (h3 : ¬ o.k = 3) (h4 : ¬ o.k = 4) (h5 : ¬ o.k = 5) (h6 : ¬ o.k = 6) (h7 : ¬ o.k = 7) (h8 : ¬ o.k = 8) : a.run c o = (err 1,a) := by
 unfold Md.run
 rw [if_pos (by omega)]
theorem run_out {c : Int} (h : ¬ (0 ≤ c ∧ c < (a.N : Int))) : a.run c o = (err 1,a) := by
 unfold Md.run
 rw [if_pos (.inl h)]
end
end PmW
namespace PmN
open Go.ChangeShapes Go.WideShapes Go.ChangeAt Go.RowKit
open Mem Blk Cells Orow GrC MdM MdC PmR PmK Stages Trees
theorem made_bools (n : Nat) (hn : n ≤ 48) (w : World) : (Instr.makeSlice 46 (.int .i64 (n : Int)) (.int .i64 (n : Int))).run Tryz.prog w = .ok (.slice (some ⟨w.heap.size,0,none⟩) n n) (w.alloc (.cells (madeCells #[.bool false] n) 4)) := by
 obtain ⟨i,hi,hz,hs,hb⟩ := info_parts infoclone_bools
 have := run_make (P := Tryz.prog) w 46 4 i _ Tryz.underlying46 hi hz .i64 .i64 (n : Int) (n : Int) (by omega) (Int.le_refl _) (by rw [hb];omega) (by omega)
 rw [hs,Int.toNat_natCast,Nat.mul_one] at this
 exact this
theorem or_bools (w : World) (n : Nat) (hn : n ≤ 48) : OR (w.alloc (.cells (madeCells #[.bool false] n) 4)) w.heap.size 4 1 n n (tcell fun _ => false) := by
 have hl : (madeCells #[Value.bool false] n).toList = List.replicate n (Value.bool false) := toList_madeCells_one _ _
 refine ⟨_,heap_alloc_new w _,?_,Nat.le_refl _,by unfold maxLen;omega,fun i hi => ?_⟩
 ·rw [← Array.length_toList,hl,List.length_replicate,Nat.mul_one]
 ·rw [← Array.getElem?_toList,hl]
  have hi : i < n := by omega
  simp [hi,tcell]
end PmN
namespace RgL
open Go.ChangeShapes Go.WideShapes Go.ChangeAt Go.RowKit
open Mem Blk Cells Orow RfP RgP RgS RgA RgB RgC RgO RgD RgE RgF Trees Stages
open ArM (Ar Fr fUsed fFree)
open ArC (ArAt FR)
open Dev (Dv DevAt)
open ListM (outL frontL okO okF)
open HdM (Hs)
open RgH (hs)
open MdM (Md MdOp Re)
open RfM (Pl)
open RfI (InvE Inv)
open RgM (Bnd saveC saveS)
section
variable {w w' : World} {col : Nat → Nat} {d D W a b B h t : Nat} {n N k : Nat}
theorem among_any (x m : Int) (w : World) : Calls Tryz.prog 34 #[.int .i64 x,.int .i64 m] w fun e w' => e = .returned (.bool (decide (1 ≤ x) && decide (x ≤ m))) ∧ w = w' := by
 by_cases h1 : 1 ≤ x
 ·by_cases h2 : x ≤ m
  ·have HE : Hid ((decide (1 ≤ x) && decide (x ≤ m)) = true) := by unfold Hid;simp [h1,h2]
   go_enter Tryz.func34,Tryz.ntmps34
   go_wp2
   go_ret
   exact ⟨by first | (rw [HE.out];rfl) | simp [show x ≤ m by omega],rfl⟩
  ·have HE : Hid ((decide (1 ≤ x) && decide (x ≤ m)) = false) := by unfold Hid;simp [h2]
   go_enter Tryz.func34,Tryz.ntmps34
   go_wp2
   go_ret
   exact ⟨by first | (rw [HE.out];rfl) | simp [show ¬ x ≤ m by omega],rfl⟩
 ·have HE : Hid ((decide (1 ≤ x) && decide (x ≤ m)) = false) := by unfold Hid;simp [h1]
  go_enter Tryz.func34,Tryz.ntmps34
  go_wp2
  go_ret
  exact ⟨by first | (rw [HE.out];rfl) | simp [show ¬ 1 ≤ x by omega],rfl⟩
theorem among_yes {x m : Int} (h1 : 1 ≤ x) (h2 : x ≤ m) (w : World) : Calls Tryz.prog 34 #[.int .i64 x,.int .i64 m] w fun e w' => e = .returned (.bool true) ∧ w = w' :=
 (among_any x m w).mono fun e w' ⟨he,hw⟩ => ⟨by rw [he];simp [h1,h2],hw⟩
theorem among_no {x m : Int} (h : ¬ (1 ≤ x ∧ x ≤ m)) (w : World) : Calls Tryz.prog 34 #[.int .i64 x,.int .i64 m] w fun e w' => e = .returned (.bool false) ∧ w = w' :=
 (among_any x m w).mono fun e w' ⟨he,hw⟩ => ⟨by
   rw [he]
   have : (decide (1 ≤ x) && decide (x ≤ m)) = false := by
    cases e : (decide (1 ≤ x) && decide (x ≤ m)) with
    | false => rfl
    | true => simp only [Bool.and_eq_true,decide_eq_true_eq] at e;exact absurd e h
   rw [this],hw⟩
theorem new_bad (n N k : Int) (h : ¬ ((1 ≤ n ∧ n ≤ 48) ∧ (1 ≤ N ∧ N ≤ 6) ∧ 1 ≤ k ∧ k ≤ 32)) (w : World) : Calls Tryz.prog 12 #[.int .i64 n,.int .i64 N,.int .i64 k] w fun e w' => e = .returned (.pointer none) ∧ w = w' := by
 by_cases h1 : 1 ≤ n ∧ n ≤ 48
 ·have A1 := fun w => hid (among_yes h1.1 h1.2 w)
  by_cases h2 : 1 ≤ N ∧ N ≤ 6
  ·have A2 := fun w => hid (among_yes h2.1 h2.2 w)
   have A3 := fun w => hid (among_no (x := k) (m := 32) (fun e => h ⟨h1,h2,e⟩) w)
   clear h h1 h2
   go_enter Tryz.func12,Tryz.ntmps12
   go_wp2_with (first
    | (go_at_call 34;(with_reducible refine (A1 _).out.mono ?_);rintro e w1 ⟨rfl,rfl⟩)
    | (go_at_call 34;(with_reducible refine (A2 _).out.mono ?_);rintro e w1 ⟨rfl,rfl⟩)
    | (go_at_call 34;(with_reducible refine (A3 _).out.mono ?_);rintro e w1 ⟨rfl,rfl⟩))
   go_ret
   exact ⟨rfl,rfl⟩
  ·have A2 := fun w => hid (among_no h2 w)
   clear h h1 h2
   go_enter Tryz.func12,Tryz.ntmps12
   go_wp2_with (first
    | (go_at_call 34;(with_reducible refine (A1 _).out.mono ?_);rintro e w1 ⟨rfl,rfl⟩)
    | (go_at_call 34;(with_reducible refine (A2 _).out.mono ?_);rintro e w1 ⟨rfl,rfl⟩))
   go_ret
   exact ⟨rfl,rfl⟩
 ·have A1 := fun w => hid (among_no h1 w)
  clear h h1
  go_enter Tryz.func12,Tryz.ntmps12
  go_wp2_with (go_at_call 34;(with_reducible refine (A1 _).out.mono ?_);rintro e w1 ⟨rfl,rfl⟩)
  go_ret
  exact ⟨rfl,rfl⟩
structure PT (w : World) (col : Nat → Nat) (t n : Nat) : Prop where
 at_ : Row w t n (tcell fun _ => false)
 ct : col t = 11
theorem PT.keep (x : PT w col t n) (hk : Grow w w') (c : Nat) : PT w' (paint w.heap.size c col) t n := ⟨x.at_.kept hk id,(paint_old x.at_.lt).trans x.ct⟩
theorem pd_new {S : Dv} (h : DevAt w' d D W (DevN.newG w d D W) S) (hd : w.heap.size ≤ d ∧ w.heap.size ≤ D ∧ w.heap.size ≤ W) : PD w' (paint w.heap.size 7 col) d D W S := by
 have hl : ∀ k,Dev.Own d D W k → k < w'.heap.size := fun k y => by
  obtain ⟨dv,h1,_⟩ := h.dur
  obtain ⟨wv,h3,_⟩ := h.wr
  rcases y with rfl | rfl | rfl
  ·exact h.disk.lt
  ·exact h1.lt
  ·exact h3.lt
 refine ⟨h.turn (fun k _ y => y.elim (fun y => ?_) .inr) fun k y => .inr y,fun k y => ⟨hl k y,paint_new ?_⟩⟩
 ·by_cases e : k < w.heap.size
  ·exact .inl e
  ·exact absurd (paint_new (by omega)) y.2
 ·rcases y with rfl | rfl | rfl
  ·exact hd.1
  ·exact hd.2.1
  ·exact hd.2.2
theorem pa_new {A : Ar} (h : ArAt w' (w.heap.size ≤ ·) a A) : PA w' (paint w.heap.size 8 col) a A := h.mono fun _ h1 h2 => ⟨h1,paint_new h2⟩
theorem ph_new {H : Hs} (x : HdC.HAt w' (w.heap.size ≤ ·) h H) : PH w' (paint w.heap.size 10 col) h H := x.mono fun _ h1 h2 => ⟨h1,paint_new h2⟩
theorem pl_new {L : List Nat} (x : Rowed.ListAt w' b B n L) (h1 : w.heap.size ≤ b) (h2 : w.heap.size ≤ B) (l1 : b < w'.heap.size) (l2 : B < w'.heap.size) : PL w' (paint w.heap.size 9 col) b B n L :=
 ⟨x,fun k y => by
  rcases y with rfl | rfl
  ·exact ⟨l1,paint_new h1⟩
  ·exact ⟨l2,paint_new h2⟩⟩
theorem pt_new (w : World) (n : Nat) (hn : n ≤ 48) : PT (w.alloc (.cells (madeCells #[.bool false] n) 4)) (paint w.heap.size 11 col) w.heap.size n := by
 have := (PmN.or_bools w n hn).row
 rw [Nat.mul_one] at this
 exact ⟨this,paint_new (Nat.le_refl _)⟩
theorem PD.k0 {S : Dv} (x : PD w col d D W S) (hk : Grow w w') (c : Nat) : PD w' (paint w.heap.size c col) d D W S := x.keep hk (fun _ _ f => f.elim) c
theorem PA.k0 {A : Ar} (x : PA w col a A) (hk : Grow w w') (c : Nat) : PA w' (paint w.heap.size c col) a A := PA.keep x hk (fun _ _ f => f.elim) c
theorem PL.k0 {L : List Nat} (x : PL w col b B n L) (hk : Grow w w') (c : Nat) : PL w' (paint w.heap.size c col) b B n L := x.keep hk (fun _ _ f => f.elim) c
theorem PH.k0 {H : Hs} (x : PH w col h H) (hk : Grow w w') (c : Nat) : PH w' (paint w.heap.size c col) h H := PH.keep x hk (fun _ _ f => f.elim) c
def NewPost (n N k : Nat) (w : World) (e : Ending) (w' : World) : Prop :=
 ∃ ν col',e = .returned (.pointer (some ⟨ν.r,0,none⟩)) ∧ MP w' col' ν (RfM.fresh n N k) ∧ Fit ν (RfM.fresh n N k) ∧ Grow w w' ∧ ∀ i,i < w.heap.size → col' i = 0
def Zero (s : Nat) (col : Nat → Nat) : Prop := ∀ i,i < s → col i = 0
theorem Zero.paint {s u : Nat} (h : Zero s col) (hu : s ≤ u) (c : Nat) : Zero s (paint u c col) := fun i hi => by rw [paint_old (by omega)];exact h i hi
theorem new_end {s : Nat} (xd : PD w' col d D W (Dev.newS n)) (xa : PA w' col a (ArM.fresh k)) (xl : PL w' col b B k []) (xh : PH w' col h (HdM.fresh N)) (xt : PT w' col t n) (hg : Grow w w') (hz : Zero w.heap.size col) :
  NewPost n N k w (.returned (.pointer (some ⟨w'.heap.size,0,none⟩))) (w'.alloc (.cells #[.pointer (some ⟨d,0,none⟩),.pointer (some ⟨a,0,none⟩),.pointer (some ⟨h,0,none⟩),.pointer (some ⟨b,0,none⟩),.slice (some ⟨t,0,none⟩) n n,.int .i64 (N : Int)] 86)) := by
 have hk : Grow w' (w'.alloc (.cells #[.pointer (some ⟨d,0,none⟩),.pointer (some ⟨a,0,none⟩),.pointer (some ⟨h,0,none⟩),.pointer (some ⟨b,0,none⟩),.slice (some ⟨t,0,none⟩) n n,.int .i64 (N : Int)] 86)) := (Kept.refl _ _).alloc _
 have hb := Blk.new w' 86 [.pointer (some ⟨d,0,none⟩),.pointer (some ⟨a,0,none⟩),.pointer (some ⟨h,0,none⟩),.pointer (some ⟨b,0,none⟩),.slice (some ⟨t,0,none⟩) n n,.int .i64 (N : Int)]
 have ht := xt.keep hk 6
 refine ⟨⟨w'.heap.size,d,D,W,a,b,B,h,t,n,N,k⟩,paint w'.heap.size 6 col,rfl,⟨Row.of_blk hb rfl fun i hi => ?_,ht.at_,⟨PD.k0 xd hk 6,PA.k0 xa hk 6,PL.k0 xl hk 6,PH.k0 xh hk 6⟩,paint_new (Nat.le_refl _),ht.ct⟩,⟨rfl,rfl,rfl⟩,hg.trans hk,hz.paint hg.size 6⟩
 have : i = 0 ∨ i = 1 ∨ i = 2 ∨ i = 3 ∨ i = 4 ∨ i = 5 := by omega
 rcases this with rfl | rfl | rfl | rfl | rfl | rfl <;> rfl
theorem list_lt {L : List Nat} (x : Rowed.ListAt w b B n L) : b < w.heap.size ∧ B < w.heap.size := x.lt
set_option maxRecDepth 100000 in
set_option maxHeartbeats 4000000 in
theorem new_good (n N k : Nat) (h1 : 1 ≤ n) (h2 : n ≤ 48) (h3 : 1 ≤ N) (h4 : N ≤ 6) (h5 : 1 ≤ k) (h6 : k ≤ 32) (w : World) : Calls Tryz.prog 12 #[.int .i64 (n : Int),.int .i64 (N : Int),.int .i64 (k : Int)] w (NewPost n N k w) := by
 have A1 := fun w => hid (among_yes (x := (n : Int)) (m := 48) (by omega) (by omega) w)
 have A2 := fun w => hid (among_yes (x := (N : Int)) (m := 6) (by omega) (by omega) w)
 have A3 := fun w => hid (among_yes (x := (k : Int)) (m := 32) (by omega) (by omega) w)
 have hmk := PmN.made_bools n h2
 have HCD : Hid (∀ w,Calls Tryz.prog 35 #[.int .i64 (n : Int)] w (DevN.NewPost w n)) := fun w => DevN.new_good (w := w) n h1 h2
 have HCA : Hid (∀ w,Calls Tryz.prog 36 #[.int .i64 (k : Int)] w (ArN.NewPost k w)) := fun w => ArN.new_good (w := w) k h6
 have HCH : Hid (∀ w,Calls Tryz.prog 37 #[.int .i64 (N : Int)] w (HdF.NewPost N w)) := fun w => HdF.new_good (w := w) N h3 h4
 have HCL : Hid (∀ w,Calls Tryz.prog 38 #[.int .i64 (k : Int)] w (ListD.NewPost k w)) := fun w => ListD.new_good (w := w) k (by omega)
 have HN := hid h2
 clear h1 h2 h3 h4 h5 h6
 go_enter Tryz.func12,Tryz.ntmps12
 go_upto_region 3 with (first
  | (go_at_call 34;(with_reducible refine (A1 _).out.mono ?_);rintro e w1 ⟨rfl,rfl⟩)
  | (go_at_call 34;(with_reducible refine (A2 _).out.mono ?_);rintro e w1 ⟨rfl,rfl⟩)
  | (go_at_call 34;(with_reducible refine (A3 _).out.mono ?_);rintro e w1 ⟨rfl,rfl⟩))
 refine wp_region_tree Grow Grow (kept_refl _) (kept_trans _) (kept_refl _) (kept_trans _) (fun _ _ h => h) [] (.two true [0,2,4,6,8,10] 1 (.two true [] 3 (.two true [] 5 (.two true [] 7 (.one true [] 9 (.one true [11] 12 (.last true [13]))) 9 (.one true [] 7 (.one true [11] 12 (.last true [13])))) 9 (.one true [] 5 (.one true [] 7 (.one true [11] 12 (.last true [13]))))) 9 (.one true [] 3 (.one true [] 5 (.one true [] 7 (.one true [11] 12 (.last true [13])))))) 9 (.one true [] 1 (.one true [] 3 (.one true [] 5 (.one true [] 7 (.one true [11] 12 (.last true [13]))))))) (by kernel_rfl) (by kernel_rfl) ?_
 have HG0 : Hid (Grow w w.drew) := Kept.drew' w
 have HZ0 : Hid (Zero w.heap.size fun _ => 0) := fun _ _ => rfl
 obtain ⟨c0,hc0⟩ : ∃ c0 : Nat → Nat,c0 = fun _ => 0 := ⟨_,rfl⟩
 rw [← hc0] at HZ0
 clear A1 A2 A3 hc0
 generalize w.drew = u0 at *
 refine tr_twoE fun K1 hK1 K2 hK2 => ?_
 simp only [sel,ZmC,ZmN,ZgS,ZgZ]
 repeat (go_big_quiet_step (fail))
 refine wpQuiet_nil ?_
 refine ⟨?_,?_⟩
 ·go_wp2_with (go_at_call 35;(with_reducible refine (HCD.out u0).mono ?_);rintro e u1 ⟨d,D,W,rfl,hd,hlo,hgx⟩;have HGX := hid hgx;have HD1 := hid (pd_new (col := c0) hd hlo);clear hd hlo hgx)
  refine norm_up (hK1 _ _ (Lr_early (by decide) HGX.out) ?_)
  clear hK1 hK2 K1 K2
  have HG1 := hid (HG0.out.trans HGX.out)
  have HZ1 := hid (HZ0.out.paint HG0.out.size 7)
  generalize paint u0.heap.size 7 c0 = c1 at *
  clear HGX
  refine tr_twoE fun K1 hK1 K2 hK2 => ?_
  simp only [sel,ZmC,ZmN,ZgS,ZgZ]
  repeat (go_big_quiet_step (fail))
  refine wpQuiet_nil ?_
  refine ⟨?_,?_⟩
  ·go_wp2_with (go_at_call 36;(with_reducible refine (HCA.out u1).mono ?_);rintro e u2 ⟨rfl,ha,hgx⟩;have HGX := hid hgx;have HA2 := hid (pa_new (col := c1) ha);clear ha hgx)
   refine norm_up (hK1 _ _ (Lr_early (by decide) HGX.out) ?_)
   clear hK1 hK2 K1 K2
   have HD2 := hid (PD.k0 HD1.out HGX.out 8)
   have HG2 := hid (HG1.out.trans HGX.out)
   have HZ2 := hid (HZ1.out.paint HG1.out.size 8)
   generalize paint u1.heap.size 8 c1 = c2 at *
   generalize u1.heap.size = a at *
   clear HGX
   refine tr_twoE fun K1 hK1 K2 hK2 => ?_
   simp only [sel,ZmC,ZmN,ZgS,ZgZ]
   repeat (go_big_quiet_step (fail))
   refine wpQuiet_nil ?_
   refine ⟨?_,?_⟩
   ·go_wp2_with (go_at_call 37;(with_reducible refine (HCH.out u2).mono ?_);rintro e u3 ⟨rfl,ha,hgx⟩;have HGX := hid hgx;have HH3 := hid (ph_new (col := c2) ha);clear ha hgx)
    refine norm_up (hK1 _ _ (Lr_early (by decide) HGX.out) ?_)
    clear hK1 hK2 K1 K2
    have HD3 := hid (PD.k0 HD2.out HGX.out 10)
    have HA3 := hid (PA.k0 HA2.out HGX.out 10)
    have HG3 := hid (HG2.out.trans HGX.out)
    have HZ3 := hid (HZ2.out.paint HG2.out.size 10)
    generalize paint u2.heap.size 10 c2 = c3 at *
    generalize u2.heap.size = h at *
    clear HGX
    refine tr_twoE fun K1 hK1 K2 hK2 => ?_
    simp only [sel,ZmC,ZmN,ZgS,ZgZ]
    repeat (go_big_quiet_step (fail))
    refine wpQuiet_nil ?_
    refine ⟨?_,?_⟩
    ·go_wp2_with (go_at_call 38;(with_reducible refine (HCL.out u3).mono ?_);rintro e u4 ⟨b,B,rfl,hli,hb1,hb2,hgx⟩;have HGX := hid hgx;have HL4 := hid (pl_new (col := c3) hli hb1 hb2 (list_lt hli).1 (list_lt hli).2);clear hli hb1 hb2 hgx)
     refine norm_up (hK1 _ _ (Lr_early (by decide) HGX.out) ?_)
     clear hK1 hK2 K1 K2
     have HD4 := hid (PD.k0 HD3.out HGX.out 9)
     have HA4 := hid (PA.k0 HA3.out HGX.out 9)
     have HH4 := hid (PH.k0 HH3.out HGX.out 9)
     have HG4 := hid (HG3.out.trans HGX.out)
     have HZ4 := hid (HZ3.out.paint HG3.out.size 9)
     generalize paint u3.heap.size 9 c3 = c4 at *
     clear HGX
     refine tr_oneE fun K hK => ?_
     simp only [sel,ZmC,ZmN,ZgS,ZgZ]
     repeat (go_big_quiet_step (fail))
     refine wpQuiet_nil ?_
     go_wp2_with (simp only [hmk])
     have hgx : Grow u4 (u4.alloc (.cells (madeCells #[.bool false] n) 4)) := (Kept.refl _ _).alloc _
     have HGX := hid hgx
     have HT5 := hid (pt_new (col := c4) u4 n HN.out)
     refine norm_up (hK _ _ (Lr_early (by decide) HGX.out) ?_)
     clear hK K
     have HD5 := hid (PD.k0 HD4.out HGX.out 11)
     have HA5 := hid (PA.k0 HA4.out HGX.out 11)
     have HH5 := hid (PH.k0 HH4.out HGX.out 11)
     have HL5 := hid (PL.k0 HL4.out HGX.out 11)
     have HG5 := hid (HG4.out.trans HGX.out)
     have HZ5 := hid (HZ4.out.paint HG4.out.size 11)
     generalize hv5 : u4.alloc (.cells (madeCells #[.bool false] n) 4) = u5 at *
     generalize paint u4.heap.size 11 c4 = c5 at *
     generalize u4.heap.size = t at *
     clear HGX
     refine tr_oneE fun K hK => ?_
     simp only [sel,ZmC,ZmN,ZgS,ZgZ]
     repeat (go_big_quiet_step (fail))
     refine wpQuiet_nil ?_
     go_wp2
     refine norm_up (hK _ _ (Lr_early (by decide) ((Kept.refl _ _).alloc _)) ?_)
     clear hK K
     refine tr_last fun K hK => ?_
     simp only [sel,ZmC,ZmN,ZgS,ZgZ]
     repeat (go_big_quiet_step (fail))
     refine wpQuiet_nil (hK _ ?_)
     clear hK K
     go_wp2
     go_ret
     exact new_end (s := 0) HD5.out HA5.out HL5.out HH5.out HT5.out HG5.out HZ5.out
    ·go_wp2_with (simp only [hmk])
     have hgx : Grow u3 (u3.alloc (.cells (madeCells #[.bool false] n) 4)) := (Kept.refl _ _).alloc _
     have HGX := hid hgx
     have HT4 := hid (pt_new (col := c3) u3 n HN.out)
     refine norm_up (hK2 _ _ (Lr_early (by decide) HGX.out) ?_)
     clear hK1 hK2 K1 K2
     have HD4 := hid (PD.k0 HD3.out HGX.out 11)
     have HA4 := hid (PA.k0 HA3.out HGX.out 11)
     have HH4 := hid (PH.k0 HH3.out HGX.out 11)
     have HG4 := hid (HG3.out.trans HGX.out)
     have HZ4 := hid (HZ3.out.paint HG3.out.size 11)
     generalize hv4 : u3.alloc (.cells (madeCells #[.bool false] n) 4) = u4 at *
     generalize paint u3.heap.size 11 c3 = c4 at *
     generalize u3.heap.size = t at *
     clear HGX
     refine tr_oneE fun K hK => ?_
     simp only [sel,ZmC,ZmN,ZgS,ZgZ]
     repeat (go_big_quiet_step (fail))
     refine wpQuiet_nil ?_
     go_wp2_with (go_at_call 38;(with_reducible refine (HCL.out u4).mono ?_);rintro e u5 ⟨b,B,rfl,hli,hb1,hb2,hgx⟩;have HGX := hid hgx;have HL5 := hid (pl_new (col := c4) hli hb1 hb2 (list_lt hli).1 (list_lt hli).2);clear hli hb1 hb2 hgx)
     refine norm_up (hK _ _ (Lr_early (by decide) HGX.out) ?_)
     clear hK K
     have HD5 := hid (PD.k0 HD4.out HGX.out 9)
     have HA5 := hid (PA.k0 HA4.out HGX.out 9)
     have HH5 := hid (PH.k0 HH4.out HGX.out 9)
     have HT5 := hid (HT4.out.keep HGX.out 9)
     have HG5 := hid (HG4.out.trans HGX.out)
     have HZ5 := hid (HZ4.out.paint HG4.out.size 9)
     generalize paint u4.heap.size 9 c4 = c5 at *
     clear HGX
     refine tr_oneE fun K hK => ?_
     simp only [sel,ZmC,ZmN,ZgS,ZgZ]
     repeat (go_big_quiet_step (fail))
     refine wpQuiet_nil ?_
     go_wp2
     refine norm_up (hK _ _ (Lr_early (by decide) ((Kept.refl _ _).alloc _)) ?_)
     clear hK K
     refine tr_last fun K hK => ?_
     simp only [sel,ZmC,ZmN,ZgS,ZgZ]
     repeat (go_big_quiet_step (fail))
     refine wpQuiet_nil (hK _ ?_)
     clear hK K
     go_wp2
     go_ret
     exact new_end (s := 0) HD5.out HA5.out HL5.out HH5.out HT5.out HG5.out HZ5.out
   ·go_wp2_with (simp only [hmk])
    have hgx : Grow u2 (u2.alloc (.cells (madeCells #[.bool false] n) 4)) := (Kept.refl _ _).alloc _
    have HGX := hid hgx
    have HT3 := hid (pt_new (col := c2) u2 n HN.out)
    refine norm_up (hK2 _ _ (Lr_early (by decide) HGX.out) ?_)
    clear hK1 hK2 K1 K2
    have HD3 := hid (PD.k0 HD2.out HGX.out 11)
    have HA3 := hid (PA.k0 HA2.out HGX.out 11)
    have HG3 := hid (HG2.out.trans HGX.out)
    have HZ3 := hid (HZ2.out.paint HG2.out.size 11)
    generalize hv3 : u2.alloc (.cells (madeCells #[.bool false] n) 4) = u3 at *
    generalize paint u2.heap.size 11 c2 = c3 at *
    generalize u2.heap.size = t at *
    clear HGX
    refine tr_oneE fun K hK => ?_
    simp only [sel,ZmC,ZmN,ZgS,ZgZ]
    repeat (go_big_quiet_step (fail))
    refine wpQuiet_nil ?_
    go_wp2_with (go_at_call 37;(with_reducible refine (HCH.out u3).mono ?_);rintro e u4 ⟨rfl,ha,hgx⟩;have HGX := hid hgx;have HH4 := hid (ph_new (col := c3) ha);clear ha hgx)
    refine norm_up (hK _ _ (Lr_early (by decide) HGX.out) ?_)
    clear hK K
    have HD4 := hid (PD.k0 HD3.out HGX.out 10)
    have HA4 := hid (PA.k0 HA3.out HGX.out 10)
    have HT4 := hid (HT3.out.keep HGX.out 10)
    have HG4 := hid (HG3.out.trans HGX.out)
    have HZ4 := hid (HZ3.out.paint HG3.out.size 10)
    generalize paint u3.heap.size 10 c3 = c4 at *
    generalize u3.heap.size = h at *
    clear HGX
    refine tr_oneE fun K hK => ?_
    simp only [sel,ZmC,ZmN,ZgS,ZgZ]
    repeat (go_big_quiet_step (fail))
    refine wpQuiet_nil ?_
    go_wp2_with (go_at_call 38;(with_reducible refine (HCL.out u4).mono ?_);rintro e u5 ⟨b,B,rfl,hli,hb1,hb2,hgx⟩;have HGX := hid hgx;have HL5 := hid (pl_new (col := c4) hli hb1 hb2 (list_lt hli).1 (list_lt hli).2);clear hli hb1 hb2 hgx)
    refine norm_up (hK _ _ (Lr_early (by decide) HGX.out) ?_)
    clear hK K
    have HD5 := hid (PD.k0 HD4.out HGX.out 9)
    have HA5 := hid (PA.k0 HA4.out HGX.out 9)
    have HH5 := hid (PH.k0 HH4.out HGX.out 9)
    have HT5 := hid (HT4.out.keep HGX.out 9)
    have HG5 := hid (HG4.out.trans HGX.out)
    have HZ5 := hid (HZ4.out.paint HG4.out.size 9)
    generalize paint u4.heap.size 9 c4 = c5 at *
    clear HGX
    refine tr_oneE fun K hK => ?_
    simp only [sel,ZmC,ZmN,ZgS,ZgZ]
    repeat (go_big_quiet_step (fail))
    refine wpQuiet_nil ?_
    go_wp2
    refine norm_up (hK _ _ (Lr_early (by decide) ((Kept.refl _ _).alloc _)) ?_)
    clear hK K
    refine tr_last fun K hK => ?_
    simp only [sel,ZmC,ZmN,ZgS,ZgZ]
    repeat (go_big_quiet_step (fail))
    refine wpQuiet_nil (hK _ ?_)
    clear hK K
    go_wp2
    go_ret
    exact new_end (s := 0) HD5.out HA5.out HL5.out HH5.out HT5.out HG5.out HZ5.out
  ·go_wp2_with (simp only [hmk])
   have hgx : Grow u1 (u1.alloc (.cells (madeCells #[.bool false] n) 4)) := (Kept.refl _ _).alloc _
   have HGX := hid hgx
   have HT2 := hid (pt_new (col := c1) u1 n HN.out)
   refine norm_up (hK2 _ _ (Lr_early (by decide) HGX.out) ?_)
   clear hK1 hK2 K1 K2
   have HD2 := hid (PD.k0 HD1.out HGX.out 11)
   have HG2 := hid (HG1.out.trans HGX.out)
   have HZ2 := hid (HZ1.out.paint HG1.out.size 11)
   generalize hv2 : u1.alloc (.cells (madeCells #[.bool false] n) 4) = u2 at *
   generalize paint u1.heap.size 11 c1 = c2 at *
   generalize u1.heap.size = t at *
   clear HGX
   refine tr_oneE fun K hK => ?_
   simp only [sel,ZmC,ZmN,ZgS,ZgZ]
   repeat (go_big_quiet_step (fail))
   refine wpQuiet_nil ?_
   go_wp2_with (go_at_call 36;(with_reducible refine (HCA.out u2).mono ?_);rintro e u3 ⟨rfl,ha,hgx⟩;have HGX := hid hgx;have HA3 := hid (pa_new (col := c2) ha);clear ha hgx)
   refine norm_up (hK _ _ (Lr_early (by decide) HGX.out) ?_)
   clear hK K
   have HD3 := hid (PD.k0 HD2.out HGX.out 8)
   have HT3 := hid (HT2.out.keep HGX.out 8)
   have HG3 := hid (HG2.out.trans HGX.out)
   have HZ3 := hid (HZ2.out.paint HG2.out.size 8)
   generalize paint u2.heap.size 8 c2 = c3 at *
   generalize u2.heap.size = a at *
   clear HGX
   refine tr_oneE fun K hK => ?_
   simp only [sel,ZmC,ZmN,ZgS,ZgZ]
   repeat (go_big_quiet_step (fail))
   refine wpQuiet_nil ?_
   go_wp2_with (go_at_call 37;(with_reducible refine (HCH.out u3).mono ?_);rintro e u4 ⟨rfl,ha,hgx⟩;have HGX := hid hgx;have HH4 := hid (ph_new (col := c3) ha);clear ha hgx)
   refine norm_up (hK _ _ (Lr_early (by decide) HGX.out) ?_)
   clear hK K
   have HD4 := hid (PD.k0 HD3.out HGX.out 10)
   have HA4 := hid (PA.k0 HA3.out HGX.out 10)
   have HT4 := hid (HT3.out.keep HGX.out 10)
   have HG4 := hid (HG3.out.trans HGX.out)
   have HZ4 := hid (HZ3.out.paint HG3.out.size 10)
   generalize paint u3.heap.size 10 c3 = c4 at *
   generalize u3.heap.size = h at *
   clear HGX
   refine tr_oneE fun K hK => ?_
   simp only [sel,ZmC,ZmN,ZgS,ZgZ]
   repeat (go_big_quiet_step (fail))
   refine wpQuiet_nil ?_
   go_wp2_with (go_at_call 38;(with_reducible refine (HCL.out u4).mono ?_);rintro e u5 ⟨b,B,rfl,hli,hb1,hb2,hgx⟩;have HGX := hid hgx;have HL5 := hid (pl_new (col := c4) hli hb1 hb2 (list_lt hli).1 (list_lt hli).2);clear hli hb1 hb2 hgx)
   refine norm_up (hK _ _ (Lr_early (by decide) HGX.out) ?_)
   clear hK K
   have HD5 := hid (PD.k0 HD4.out HGX.out 9)
   have HA5 := hid (PA.k0 HA4.out HGX.out 9)
   have HH5 := hid (PH.k0 HH4.out HGX.out 9)
   have HT5 := hid (HT4.out.keep HGX.out 9)
   have HG5 := hid (HG4.out.trans HGX.out)
   have HZ5 := hid (HZ4.out.paint HG4.out.size 9)
   generalize paint u4.heap.size 9 c4 = c5 at *
   clear HGX
   refine tr_oneE fun K hK => ?_
   simp only [sel,ZmC,ZmN,ZgS,ZgZ]
   repeat (go_big_quiet_step (fail))
   refine wpQuiet_nil ?_
   go_wp2
   refine norm_up (hK _ _ (Lr_early (by decide) ((Kept.refl _ _).alloc _)) ?_)
   clear hK K
   refine tr_last fun K hK => ?_
   simp only [sel,ZmC,ZmN,ZgS,ZgZ]
   repeat (go_big_quiet_step (fail))
   refine wpQuiet_nil (hK _ ?_)
   clear hK K
   go_wp2
   go_ret
   exact new_end (s := 0) HD5.out HA5.out HL5.out HH5.out HT5.out HG5.out HZ5.out
 ·go_wp2_with (simp only [hmk])
  have hgx : Grow u0 (u0.alloc (.cells (madeCells #[.bool false] n) 4)) := (Kept.refl _ _).alloc _
  have HGX := hid hgx
  have HT1 := hid (pt_new (col := c0) u0 n HN.out)
  refine norm_up (hK2 _ _ (Lr_early (by decide) HGX.out) ?_)
  clear hK1 hK2 K1 K2
  have HG1 := hid (HG0.out.trans HGX.out)
  have HZ1 := hid (HZ0.out.paint HG0.out.size 11)
  generalize hv1 : u0.alloc (.cells (madeCells #[.bool false] n) 4) = u1 at *
  generalize paint u0.heap.size 11 c0 = c1 at *
  generalize u0.heap.size = t at *
  clear HGX
  refine tr_oneE fun K hK => ?_
  simp only [sel,ZmC,ZmN,ZgS,ZgZ]
  repeat (go_big_quiet_step (fail))
  refine wpQuiet_nil ?_
  go_wp2_with (go_at_call 35;(with_reducible refine (HCD.out u1).mono ?_);rintro e u2 ⟨d,D,W,rfl,hd,hlo,hgx⟩;have HGX := hid hgx;have HD2 := hid (pd_new (col := c1) hd hlo);clear hd hlo hgx)
  refine norm_up (hK _ _ (Lr_early (by decide) HGX.out) ?_)
  clear hK K
  have HT2 := hid (HT1.out.keep HGX.out 7)
  have HG2 := hid (HG1.out.trans HGX.out)
  have HZ2 := hid (HZ1.out.paint HG1.out.size 7)
  generalize paint u1.heap.size 7 c1 = c2 at *
  clear HGX
  refine tr_oneE fun K hK => ?_
  simp only [sel,ZmC,ZmN,ZgS,ZgZ]
  repeat (go_big_quiet_step (fail))
  refine wpQuiet_nil ?_
  go_wp2_with (go_at_call 36;(with_reducible refine (HCA.out u2).mono ?_);rintro e u3 ⟨rfl,ha,hgx⟩;have HGX := hid hgx;have HA3 := hid (pa_new (col := c2) ha);clear ha hgx)
  refine norm_up (hK _ _ (Lr_early (by decide) HGX.out) ?_)
  clear hK K
  have HD3 := hid (PD.k0 HD2.out HGX.out 8)
  have HT3 := hid (HT2.out.keep HGX.out 8)
  have HG3 := hid (HG2.out.trans HGX.out)
  have HZ3 := hid (HZ2.out.paint HG2.out.size 8)
  generalize paint u2.heap.size 8 c2 = c3 at *
  generalize u2.heap.size = a at *
  clear HGX
  refine tr_oneE fun K hK => ?_
  simp only [sel,ZmC,ZmN,ZgS,ZgZ]
  repeat (go_big_quiet_step (fail))
  refine wpQuiet_nil ?_
  go_wp2_with (go_at_call 37;(with_reducible refine (HCH.out u3).mono ?_);rintro e u4 ⟨rfl,ha,hgx⟩;have HGX := hid hgx;have HH4 := hid (ph_new (col := c3) ha);clear ha hgx)
  refine norm_up (hK _ _ (Lr_early (by decide) HGX.out) ?_)
  clear hK K
  have HD4 := hid (PD.k0 HD3.out HGX.out 10)
  have HA4 := hid (PA.k0 HA3.out HGX.out 10)
  have HT4 := hid (HT3.out.keep HGX.out 10)
  have HG4 := hid (HG3.out.trans HGX.out)
  have HZ4 := hid (HZ3.out.paint HG3.out.size 10)
  generalize paint u3.heap.size 10 c3 = c4 at *
  generalize u3.heap.size = h at *
  clear HGX
  refine tr_oneE fun K hK => ?_
  simp only [sel,ZmC,ZmN,ZgS,ZgZ]
  repeat (go_big_quiet_step (fail))
  refine wpQuiet_nil ?_
  go_wp2_with (go_at_call 38;(with_reducible refine (HCL.out u4).mono ?_);rintro e u5 ⟨b,B,rfl,hli,hb1,hb2,hgx⟩;have HGX := hid hgx;have HL5 := hid (pl_new (col := c4) hli hb1 hb2 (list_lt hli).1 (list_lt hli).2);clear hli hb1 hb2 hgx)
  refine norm_up (hK _ _ (Lr_early (by decide) HGX.out) ?_)
  clear hK K
  have HD5 := hid (PD.k0 HD4.out HGX.out 9)
  have HA5 := hid (PA.k0 HA4.out HGX.out 9)
  have HH5 := hid (PH.k0 HH4.out HGX.out 9)
  have HT5 := hid (HT4.out.keep HGX.out 9)
  have HG5 := hid (HG4.out.trans HGX.out)
  have HZ5 := hid (HZ4.out.paint HG4.out.size 9)
  generalize paint u4.heap.size 9 c4 = c5 at *
  clear HGX
  refine tr_oneE fun K hK => ?_
  simp only [sel,ZmC,ZmN,ZgS,ZgZ]
  repeat (go_big_quiet_step (fail))
  refine wpQuiet_nil ?_
  go_wp2
  refine norm_up (hK _ _ (Lr_early (by decide) ((Kept.refl _ _).alloc _)) ?_)
  clear hK K
  refine tr_last fun K hK => ?_
  simp only [sel,ZmC,ZmN,ZgS,ZgZ]
  repeat (go_big_quiet_step (fail))
  refine wpQuiet_nil (hK _ ?_)
  clear hK K
  go_wp2
  go_ret
  exact new_end (s := 0) HD5.out HA5.out HL5.out HH5.out HT5.out HG5.out HZ5.out
end
end RgL
namespace RgV
open Go.ChangeShapes Go.WideShapes Go.ChangeAt Go.RowKit
open Mem Blk Cells Orow RfP RgP RgS RgA RgB RgF RgH Stages
open ArM (Ar Fr)
open ArC (ArAt FR)
open Dev (Dv DevAt)
open HdM (Hs)
def OwnInts (w : World) (zs : List Int) (e : Ending) (w' : World) : Prop :=
 ∃ v,e = .returned v ∧ w'.ownsRow w.heap.size 3 1 v zs.length (zs.map (Value.int .i64)) ∧ Grow w w'
def orderL (F : Nat → Fr) (L : List Nat) : List Int := L.map fun f => (F f).pg
theorem orderL_take {F : Nat → Fr} {L : List Nat} {j : Nat} (hj : j < L.length) : orderL F (L.take (j + 1)) = orderL F (L.take j) ++ [(F (L.getD j 0)).pg] := by
 unfold orderL
 rw [List.take_add_one,List.getElem?_eq_getElem hj,List.map_append,List.getD_eq_getElem?_getD,List.getElem?_eq_getElem hj]
 rfl
theorem orderL_len (F : Nat → Fr) (L : List Nat) : (orderL F L).length = L.length := by unfold orderL;simp
def thereL (T : Nat → Bool) : Nat → List Int
 | 0 => []
 | j + 1 => if T j = true then thereL T j ++ [(j : Int)] else thereL T j
theorem thereL_le (T : Nat → Bool) : ∀ j,(thereL T j).length ≤ j
 | 0 => Nat.le_refl _
 | j + 1 => by
  have := thereL_le T j
  unfold thereL
  split
  ·simp;omega
  ·omega
section
variable {w w' : World} {col col' : Nat → Nat} {ν : Nm} {S : Dv} {A : Ar} {L : List Nat} {H : Hs} {T : Nat → Bool}
theorem disk_any (x : MAt w col ν S A L H T) : Calls Tryz.prog 17 #[.pointer (some ⟨ν.r,0,none⟩)] w fun e w' => e = .returned (.pointer (some ⟨ν.d,0,none⟩)) ∧ w = w' := by
 have c0 := x.c0
 clear x
 go_enter Tryz.func17,Tryz.ntmps17
 go_wp2
 go_ret
 exact ⟨rfl,rfl⟩
theorem disk_nil (w : World) : Calls Tryz.prog 17 #[.pointer none] w fun e w' => e = .returned (.pointer none) ∧ w = w' := by
 go_enter Tryz.func17,Tryz.ntmps17
 go_wp2
 go_ret
 exact ⟨rfl,rfl⟩
def OwnFrames (w : World) (a : Ar) (e : Ending) (w' : World) : Prop :=
 ∃ g c,e = .returned (.slice (some ⟨g,0,none⟩) a.n c) ∧ FR w' g c a.n a.F ∧ w.heap.size ≤ g ∧ Grow w w'
theorem frames_any (x : MAt w col ν S A L H T) (h0 : 0 < A.n) : Calls Tryz.prog 14 #[.pointer (some ⟨ν.r,0,none⟩)] w (OwnFrames w A) := by
 have c1 := x.c1
 have HF := hid (frames_at x.arena h0)
 clear x
 go_enter Tryz.func14,Tryz.ntmps14
 go_wp2_with (go_at_call 48;(with_reducible refine HF.out.mono ?_);rintro e w1 ⟨g,c,rfl,h⟩;have HH := hid h;clear h)
 go_ret
 exact ⟨g,c,rfl,HH.out⟩
set_option maxRecDepth 100000 in
set_option maxHeartbeats 1000000 in
theorem there_any (x : MAt w col ν S A L H T) (hn : ν.n ≤ 48) : Calls Tryz.prog 15 #[.pointer (some ⟨ν.r,0,none⟩)] w (OwnInts w (thereL T ν.n)) := by
 have c4 := x.c4
 have HT := hid x.th
 clear x
 go_enter Tryz.func15,Tryz.ntmps15
 go_wp2
 clear c4
 go_loopg [3,13] ν.n (fun gx v i wr => ∃ j : Nat,j + gx = ν.n ∧ i = .int .i64 (j : Int) ∧ wr.ownsRow w.heap.size 3 1 v (thereL T j).length ((thereL T j).map (Value.int .i64)) ∧ Below w.heap.size w wr)
 case atStart => exact ⟨0,by omega,rfl,World.ownsRow_nil _ _ _ _,Below.refl _ _⟩
 case round =>
  obtain ⟨j,hg,rfl,hown,hbel⟩ := hrel
  have HOW := hid hown
  have HB := hid hbel
  have HG := hid hg
  have HWR : Hid (Grow w wr) := Kept.of_below hbel
  by_cases hj : j < ν.n
  ·have hjz : (j : Int) < (ν.n : Int) := by omega
   have hnz : (ν.n : Int) ≤ 48 := by omega
   have t3 := (HT.out.kept HWR.out id).cell hj
   unfold tcell at t3
   have hle := thereL_le T j
   have hws : w.heap.size ≤ wr.heap.size := hbel.size
   clear hown hbel hg
   cases ht : T j with
   | false =>
    have HE : Hid (thereL T (j + 1) = thereL T j) := by unfold Hid;rw [thereL,ht];rfl
    rw [ht] at t3
    clear ht
    go_wp2
    go_roundg (gk - 1)
    case measure => have := HG.out;omega
    case rel => exact ⟨j + 1,by have := HG.out;omega,by go_num,by rw [HE.out];exact HOW.out,HB.out⟩
   | true =>
    have HE : Hid (thereL T (j + 1) = thereL T j ++ [(j : Int)]) := by unfold Hid;rw [thereL,ht];rfl
    rw [ht] at t3
    clear ht
    generalize thereL T j = l at *
    go_wp2_with (at_builtin;refine wpList_append_one rfl (.tmp 19) (.tmp 21) 33 rfl w.heap.size 3 (.int .i64 0) 8 Tryz.underlying33 infoI rfl _ l.length _ rfl (World.ownsRow.alloc HOW.out _) wr.heap.size (.int .i64 (j : Int)) rfl (cell_new1 _ _ _) rfl (by unfold maxLen;omega) (by omega) (by simp;omega) ?_;intro g cap w3 hown hbel;have HOW3 := hid hown;have HBW3 := hid hbel;clear hown hbel)
    go_roundg (gk - 1)
    case measure => have := HG.out;omega
    case rel => exact ⟨j + 1,by have := HG.out;omega,by go_num,by rw [HE.out];simpa using HOW3.out,HB.out.trans (((Below.refl _ wr).alloc hws _).trans HBW3.out)⟩
  ·have hjN : j = ν.n := by omega
   subst hjN
   obtain ⟨P,c,rfl,_⟩ := Sl.of_row1 hown
   clear hown hbel hg
   go_wp2
   try rw [Exit.noGoto_ret]
   go_ret
   exact ⟨_,rfl,HOW.out,HWR.out⟩
set_option maxRecDepth 100000 in
set_option maxHeartbeats 1000000 in
theorem order_any (x : MAt w col ν S A L H T) (h0 : 0 < A.n) (hn : A.n ≤ 32) (hu : ∀ f ∈ L,f < A.n) (hL : L.length ≤ 32) : Calls Tryz.prog 33 #[.pointer (some ⟨ν.r,0,none⟩)] w (OwnInts w (orderL A.F L)) := by
 have c1 := x.c1
 have c3 := x.c3
 have HF := hid (frames_at x.arena h0)
 have CA : Hid (∀ wx,Grow w wx → Calls Tryz.prog 86 #[.pointer (some ⟨ν.b,0,none⟩)] wx fun e w' => ∃ A cp,e = .returned (.slice A L.length cp) ∧ Sl w' w'.heap.size .i64 A L.length (ListM.ints L) ∧ (∀ x,A = some x → wx.heap.size ≤ x.block) ∧ Grow wx w') := fun wx hg => ListD.all_any (x.grow hg).order
 have HU := hid hu
 clear x hu
 go_enter Tryz.func33,Tryz.ntmps33
 go_wp2_with (first
  | (go_at_call 48;(with_reducible refine HF.out.mono ?_);rintro e w1 ⟨g,c,rfl,ho,hg,hgr⟩;have HO := hid ho;have HG1 := hid hgr;have d3 := hgr.cellN c3 id;have HAL := hid (CA.out w1 hgr);clear ho hg hgr c3)
  | (go_at_call 86;(with_reducible refine HAL.out.mono ?_);rintro e w2 ⟨P,cp,rfl,hs,hA,hg⟩;have HSL := hid hs;have HG2 := hid hg;clear hs hA hg d3))
 have HG12 : Hid (Grow w w2) := HG1.out.trans HG2.out
 clear c1
 go_loopg [3,20] L.length (fun gx v i wr => ∃ j : Nat,j + gx = L.length ∧ i = .int .i64 (j : Int) ∧ wr.ownsRow w2.heap.size 3 1 v (orderL A.F (L.take j)).length ((orderL A.F (L.take j)).map (Value.int .i64)) ∧ Below w2.heap.size w2 wr)
 case atStart => exact ⟨0,by omega,rfl,World.ownsRow_nil _ _ _ _,Below.refl _ _⟩
 case round =>
  obtain ⟨j,hg,rfl,hown,hbel⟩ := hrel
  have HOW := hid hown
  have HB := hid hbel
  have HG := hid hg
  have HWR : Hid (Grow w2 wr) := Kept.of_below hbel
  by_cases hj : j < L.length
  ·have hjz : (j : Int) < (L.length : Int) := by omega
   have hlz : (L.length : Int) ≤ 32 := by omega
   have hsl := Sl.kept HSL.out HWR.out (Nat.le_refl _) (fun _ _ e => e)
   obtain ⟨b,off,rfl,_,hcs⟩ := hsl.at_ (by omega)
   have r1 := hcs j hj
   rw [ListM.ints_get] at r1
   have hm : L.getD j 0 ∈ L := by
    rw [List.getD_eq_getElem?_getD,List.getElem?_eq_getElem hj]
    exact List.getElem_mem _
   have hfn := HU.out _ hm
   have k1 := FR.c1 (OR.kept HO.out (HG2.out.trans HWR.out) id) hfn
   have HE := hid (orderL_take (F := A.F) hj)
   have hle : (orderL A.F (L.take j)).length ≤ 32 := by rw [orderL_len,List.length_take];omega
   have hws : w2.heap.size ≤ wr.heap.size := hbel.size
   clear hown hbel hg hsl hcs hm
   generalize L.getD j 0 = f at *
   have hfz : (f : Int) < (A.n : Int) := by omega
   have hnz : (A.n : Int) ≤ 32 := by omega
   generalize orderL A.F (L.take j) = l at *
   generalize (A.F f).pg = pg at *
   go_wp2_with (at_builtin;refine wpList_append_one rfl (.tmp 24) (.tmp 30) 33 rfl w2.heap.size 3 (.int .i64 0) 8 Tryz.underlying33 infoI rfl _ l.length _ rfl (World.ownsRow.alloc HOW.out _) wr.heap.size (.int .i64 pg) rfl (cell_new1 _ _ _) rfl (by unfold maxLen;omega) (by omega) (by simp;omega) ?_;intro g cap w3 hown hbel;have HOW3 := hid hown;have HBW3 := hid hbel;clear hown hbel)
   go_roundg (gk - 1)
   case measure => have := HG.out;omega
   case rel => exact ⟨j + 1,by have := HG.out;omega,by go_num,by rw [HE.out];simpa using HOW3.out,HB.out.trans (((Below.refl _ wr).alloc hws _).trans HBW3.out)⟩
  ·have hjN : j = L.length := by have := HG.out;omega
   subst hjN
   rw [List.take_of_length_le (Nat.le_refl _)] at hown
   obtain ⟨P,c,rfl,_⟩ := Sl.of_row1 hown
   have HOW2 := hid (own_mono hown HG12.out.size)
   clear hown hbel hg HOW
   go_wp2
   try rw [Exit.noGoto_ret]
   go_ret
   exact ⟨_,rfl,HOW2.out,HG12.out.trans HWR.out⟩
end
end RgV
namespace RfE
open MdM (Md MdOp Re)
open ArM (Ar Fr fFree fUsed)
open Dev (Dv)
open RfM RfI RfR RfF RfX
section
variable {p : Pl} {a : Md} {c : Int} {o : MdOp} {q k n N : Nat} {z : List Int}
theorem each {P : Re × Md → Prop} {Q : Prop} [Decidable Q] {x y : Re × Md} (h : P x) (h' : P y) : P (if Q then x else y) := by
 split
 ·exact h
 ·exact h'
theorem model_tells (a : Md) (c : Int) (o : MdOp) : ((a.run c o).1.c ≠ 8 ∧ (a.run c o).1.c ≠ 9) ∧ (a.run c o).2.n = a.n ∧ (a.run c o).2.N = a.N := by
 let P : Re × Md → Prop := fun x => (x.1.c ≠ 8 ∧ x.1.c ≠ 9) ∧ x.2.n = a.n ∧ x.2.N = a.N
 show P (a.run c o)
 have e : ∀ (n : Int),n ≠ 8 → n ≠ 9 → P (MdM.err n,a) := fun _ h h' => ⟨⟨h,h'⟩,rfl,rfl⟩
 have pg : ∀ (x : Int) (g : Nat → Re × Md),(∀ q,P (g q)) → P (a.onPage x g) := fun x g h => each (P := P) (e 1 (by decide) (by decide)) (each (P := P) (e 2 (by decide) (by decide)) (h _))
 have hh : ∀ (x : Int) (g : Nat → Re × Md),(∀ q,P (g q)) → P (a.onHand c x g) := fun x g h => each (P := P) (e 5 (by decide) (by decide)) (h _)
 have z : ∀ (r : Re) (m : Md),r.c = 0 → m.n = a.n → m.N = a.N → P (r,m) := fun r m h h1 h2 => ⟨⟨by show r.c ≠ 8;omega,by show r.c ≠ 9;omega⟩,h1,h2⟩
 unfold Md.run
 refine each (P := P) (e 1 (by decide) (by decide)) (each (P := P) ?_ (each (P := P) (pg _ _ fun q => ?_) (each (P := P) (hh _ _ fun q => ?_) (each (P := P) (hh _ _ fun q => ?_) (each (P := P) (hh _ _ fun q => z _ _ rfl rfl rfl) (each (P := P) (pg _ _ fun q => z _ _ rfl rfl rfl) (each (P := P) (z _ _ rfl rfl rfl) (pg _ _ fun q => ?_))))))))
 ·exact each (P := P) (e 4 (by decide) (by decide)) (each (P := P) (e 3 (by decide) (by decide)) (z _ _ rfl rfl rfl))
 ·exact each (P := P) (e 4 (by decide) (by decide)) (z _ _ rfl rfl rfl)
 ·exact each (P := P) (e 6 (by decide) (by decide)) (z _ _ rfl rfl rfl)
 ·exact each (P := P) (e 6 (by decide) (by decide)) (z _ _ rfl rfl rfl)
 ·exact each (P := P) (e 7 (by decide) (by decide)) (z _ _ rfl rfl rfl)
end
end RfE
namespace RgQ
open Go.ChangeShapes Go.WideShapes Go.ChangeAt Go.RowKit
open Mem Blk Cells Orow RfP RgP RgS RgA RgB RgF RgK RgV
open ArM (Ar Fr)
open ArC (ArAt FR)
open Dev (Dv DevAt)
open MdM (Md MdOp Re)
open RfM (Pl)
open RfI (InvE Inv)
open RgM (Bnd)
structure PAt (w : World) (col : Nat → Nat) (ν : Nm) (p : Pl) (k : Nat) : Prop where
 m : MP w col ν p
 i : Inv p
 f : Fit ν p
 b : Bnd p.D k
def Out (col : Nat → Nat) (g : Nat) : Prop := col g < 6 ∨ 11 < col g
structure Dt (w : World) (col : Nat → Nat) (t : IntKind) (A : Option Addr) (n : Nat) (zs : List Int) : Prop where
 s : Sl w w.heap.size t A n zs
 o : 0 < n → ∀ x,A = some x → Out col x.block
def Boxes (w : World) (col : Nat → Nat) (bs : List (Nat × List Value)) : Prop := ∀ b ∈ bs,Blk w b.1 27 b.2 ∧ Out col b.1
section
variable {w w' : World} {col col' : Nat → Nat} {ν : Nm} {p p' : Pl} {k n g dl dc : Nat} {t : IntKind} {A D : Option Addr} {zs : List Int} {bs : List (Nat × List Value)} {cs : List Value} {F : Nat → Prop}
theorem Out.went (h : Out col g) (hg : g < w.heap.size) (hw : Went w col w' col') : Out col' g := by
 unfold Out
 rw [hw.old g hg]
 exact h
theorem out_new {s c : Nat} (h : s ≤ g) : Out (paint s 0 col) g := .inl (by rw [paint_new h];decide)
theorem sl_kept (h : Sl w n t A dl zs) (hk : Kept F w w') (ho : 0 < dl → ∀ x,A = some x → ¬ F x.block) : Sl w' n t A dl zs :=
 ⟨h.1,fun h0 => by
  obtain ⟨g,o,e,hb,hc⟩ := h.2 h0
  exact ⟨g,o,e,hb,fun j hj => hk.cellN (hc j hj) (show ¬ F g from ho h0 _ e)⟩⟩
theorem Dt.went (h : Dt w col t A n zs) (hw : Went w col w' col') : Dt w' col' t A n zs :=
 ⟨(sl_kept h.s hw.kept fun h0 x e m => by have := h.o h0 x e;have := m.2;unfold Out at *;omega).more hw.kept.size,fun h0 x e => (h.o h0 x e).went (PmT.sl_lt h.s h0 e) hw⟩
theorem Dt.grow (h : Dt w col t A n zs) (hk : Grow w w') : Dt w' (paint w.heap.size 0 col) t A n zs := h.went (Went.grow hk)
theorem Dt.fresh (h : Sl w' w'.heap.size t A n zs) (hn : 0 < n → ∀ x,A = some x → w.heap.size ≤ x.block) : Dt w' (paint w.heap.size 0 col) t A n zs := ⟨h,fun h0 x e => out_new (c := 0) (hn h0 x e)⟩
theorem Boxes.nil (w : World) (col : Nat → Nat) : Boxes w col [] := fun b hb => by cases hb
theorem Boxes.went (h : Boxes w col bs) (hw : Went w col w' col') : Boxes w' col' bs := fun b hb => Went.blk hw (h b hb).1 (h b hb).2
theorem Boxes.get {b : Nat × List Value} (h : Boxes w col bs) (hb : b ∈ bs) : Blk w b.1 27 b.2 := (h b hb).1
theorem PAt.keep (x : PAt w col ν p k) (hk : Kept F w w') (hF : ∀ i,i < w.heap.size → F i → Out col i) (hc : ∀ i,i < w.heap.size → col' i = col i) : PAt w' col' ν p k := ⟨x.m.keep hk (fun i h1 h2 => hF i h1 h2) hc,x.i,x.f,x.b⟩
theorem PAt.grow (x : PAt w col ν p k) (hk : Grow w w') : PAt w' (paint w.heap.size 0 col) ν p k := ⟨x.m.grow hk,x.i,x.f,x.b⟩
theorem PAt.drew (x : PAt w col ν p k) : PAt w.drew col ν p k := ⟨x.m.drew,x.i,x.f,x.b⟩
theorem PAt.up {j : Nat} (x : PAt w col ν p k) (h : k ≤ j) : PAt w col ν p j := ⟨x.m,x.i,x.f,x.b.up h⟩
theorem box_res (w : World) (col : Nat → Nat) (xs : Array Value) : ∃ w' : World,(w.alloc (.cells #[.int .i64 0,.int .i64 0,.int .i64 0,.slice none 0 0] 27)).setRow w.heap.size xs = w' ∧ Grow w w' ∧ Blk w' w.heap.size 27 xs.toList ∧ Blk (w.alloc (.cells #[.int .i64 0,.int .i64 0,.int .i64 0,.slice none 0 0] 27)) w.heap.size 27 [.int .i64 0,.int .i64 0,.int .i64 0,.slice none 0 0] := by
 have hb := Blk.new w 27 [.int .i64 0,.int .i64 0,.int .i64 0,.slice none 0 0]
 obtain ⟨h1,h2⟩ := set_row hb xs
 exact ⟨_,rfl,((Kept.refl _ w).alloc _).then h2 fun i hi e => by omega,h1,hb⟩
theorem Boxes.add (h : Boxes w col bs) (hk : Grow w w') (hb : Blk w' w.heap.size 27 cs) : Boxes w' (paint w.heap.size 0 col) ((w.heap.size,cs) :: bs) := fun b hm => by
 rcases List.mem_cons.1 hm with rfl | hm
 ·exact ⟨hb,out_new (c := 0) (Nat.le_refl _)⟩
 ·exact h.went (Went.grow hk) b hm
theorem run_fit (x : Fit ν p) (i : Inv p) (c : Int) (o : MdOp) (hd : MdM.Bytes o.d) : Inv (p.run c o).2 ∧ Fit ν (p.run c o).2 := by
 have hX := (RfE.model_tells p.X c o).2
 rcases RfX.run_spec i c o hd with ⟨p',e,i',hx,hn,_⟩ | ⟨e,_⟩ | ⟨p',e,i',hx,hn,_⟩
 ·rw [e]
  exact ⟨i',⟨by rw [x.n,hx];exact hX.1.symm,by rw [x.N,hx];exact hX.2.symm,by rw [x.K];exact hn.symm⟩⟩
 ·rw [e];exact ⟨i,x⟩
 ·rw [e]
  exact ⟨i',⟨by rw [x.n,hx],by rw [x.N,hx],by rw [x.K];exact hn.symm⟩⟩
def DoAt (ν : Nm) (w : World) (col : Nat → Nat) (r : Re) (p' : Pl) (k : Nat) (e : Ending) (w' : World) : Prop :=
 ∃ A n cap col',e = .returned (.agg #[.int .i64 r.c,.int .i64 r.p,.int .i64 r.h,.slice A n cap]) ∧ Dt w' col' .u8 A n r.d ∧ PmT.Fz w' A n ∧ (0 < n → ∀ x,A = some x → w.heap.size ≤ x.block) ∧ Went w col w' col' ∧ PAt w' col' ν p' (k + 50)
theorem pdo (x : PAt w col ν p k) (c : Int) (o : MdOp) (hd : Sl w w.heap.size .u8 D dl o.d) (hdl : dl ≤ 1000000) (h63 : o.o ≤ 9223372036854775807) (hby : MdM.Bytes o.d) (hk : k ≤ 100000) :
  Calls Tryz.prog 13 #[.pointer (some ⟨ν.r,0,none⟩),.int .i64 c,.agg #[.int .i64 o.k,.int .i64 o.p,.int .i64 o.h,.int .i64 o.o,.int .i64 o.n,.slice D dl dc]] w (DoAt ν w col (p.run c o).1 (p.run c o).2 k) := by
 have hfit := run_fit x.f x.i c o hby
 have hb := x.b.run x.i.gx.n.2 c o
 refine (do_any x.m x.i x.f c hd hdl h63 x.b hk).mono ?_
 rintro e w' ⟨rv,col',rfl,⟨A,n,cap,rfl,hs,hA,hf⟩,hw,hm⟩
 exact ⟨A,n,cap,col',rfl,⟨hs,fun h0 y ey => (hA y ey h0).2⟩,hf,fun h0 y ey => (hA y ey h0).1,hw,⟨hm,hfit.1,hfit.2,hb⟩⟩
theorem pdo_is {c a1 a2 a3 a4 a5 : Int} {d : List Int} {r : Re} (x : PAt w col ν p k) (hd : Sl w w.heap.size .u8 D dl d) (hdl : dl ≤ 1000000) (h63 : a4 ≤ 9223372036854775807) (hby : MdM.Bytes d) (hk : k ≤ 100000) (hr : (p.run c ⟨a1,a2,a3,a4,a5,d⟩).1 = r) (hp : (p.run c ⟨a1,a2,a3,a4,a5,d⟩).2 = p') :
  Calls Tryz.prog 13 #[.pointer (some ⟨ν.r,0,none⟩),.int .i64 c,.agg #[.int .i64 a1,.int .i64 a2,.int .i64 a3,.int .i64 a4,.int .i64 a5,.slice D dl dc]] w (DoAt ν w col r p' k) := by
 subst hr hp
 exact pdo (o := ⟨a1,a2,a3,a4,a5,d⟩) x c hd hdl h63 hby hk
theorem pdo0 {c a1 a2 a3 a4 a5 : Int} {r : Re} (x : PAt w col ν p k) (h63 : a4 ≤ 9223372036854775807) (hk : k ≤ 100000) (hr : (p.run c ⟨a1,a2,a3,a4,a5,[]⟩).1 = r) (hp : (p.run c ⟨a1,a2,a3,a4,a5,[]⟩).2 = p') :
  Calls Tryz.prog 13 #[.pointer (some ⟨ν.r,0,none⟩),.int .i64 c,.agg #[.int .i64 a1,.int .i64 a2,.int .i64 a3,.int .i64 a4,.int .i64 a5,.slice none 0 0]] w (DoAt ν w col r p' k) :=
 pdo_is x (Sl.nil _ _ _ _) (Nat.zero_le _) h63 (fun _ h => by cases h) hk hr hp
def NewAt (n N q : Nat) (w : World) (e : Ending) (w' : World) : Prop := ∃ ν col',e = .returned (.pointer (some ⟨ν.r,0,none⟩)) ∧ PAt w' col' ν (RfM.fresh n N q) 0 ∧ Grow w w' ∧ ∀ i,i < w.heap.size → col' i = 0
theorem pnew (n N q : Nat) (h1 : 1 ≤ n) (h2 : n ≤ 48) (h3 : 1 ≤ N) (h4 : N ≤ 6) (h5 : 1 ≤ q) (h6 : q ≤ 32) (w : World) : Calls Tryz.prog 12 #[.int .i64 (n : Int),.int .i64 (N : Int),.int .i64 (q : Int)] w (NewAt n N q w) :=
 (RgL.new_good n N q h1 h2 h3 h4 h5 h6 w).mono fun e w' ⟨ν,col',he,hm,hf,hg,hz⟩ => ⟨ν,col',he,⟨hm,RfX.inv_fresh h1 h2 h3 h4 h5 h6,hf,Bnd.fresh n N q⟩,hg,hz⟩
theorem own_open {zs : List Int} {v : Value} {b : Nat} (h : w.ownsRow b 3 1 v zs.length (zs.map (Value.int .i64))) (h0 : 0 < zs.length) : ∃ g c,v = .slice (some ⟨g,0,none⟩) zs.length c ∧ b ≤ g ∧ g < w.heap.size ∧ (∀ j,j < zs.length → w.cell? ⟨g,j,none⟩ = some (.int .i64 (zs.getD j 0))) ∧ ∀ j,w.frozen? ⟨g,j,none⟩ = false := by
 rcases h.2 with ⟨_,e⟩ | ⟨g,cap,cur,rfl,hb,hg,_,_,_,hl⟩
 ·omega
 ·refine ⟨g,cap,rfl,hb,(Array.getElem?_eq_some_iff.1 hg).1,fun j hj => ?_,fun j => frozen_of_row w g j cur _ hg⟩
  have h5 : (cur.toList.take (zs.length * 1))[j]? = (zs.map (Value.int .i64))[j]? := by rw [hl]
  rw [List.getElem?_take,if_pos (by omega),List.getElem?_map,List.getElem?_eq_getElem hj] at h5
  rw [cell_of_row _ _ _ _ _ _ hg,← Array.getElem?_toList,h5,List.getD_eq_getElem?_getD,List.getElem?_eq_getElem hj]
  rfl
def IntsAre (w : World) (zs : List Int) (e : Ending) (w' : World) : Prop := ∃ g c,e = .returned (.slice (some ⟨g,0,none⟩) zs.length c) ∧ w.heap.size ≤ g ∧ g < w'.heap.size ∧ (∀ j,j < zs.length → w'.cell? ⟨g,j,none⟩ = some (.int .i64 (zs.getD j 0))) ∧ (∀ j,w'.frozen? ⟨g,j,none⟩ = false) ∧ Grow w w'
theorem ints_are {zs : List Int} {f : Nat} {args : Array Value} (h : Calls Tryz.prog f args w (OwnInts w zs)) (h0 : 0 < zs.length) : Calls Tryz.prog f args w (IntsAre w zs) :=
 h.mono fun e w' ⟨v,he,ho,hg⟩ => by
  obtain ⟨g,c,rfl,h1,h2,h3,h4⟩ := own_open ho h0
  exact ⟨g,c,he,h1,h2,h3,h4,hg⟩
theorem porder (x : PAt w col ν p k) : Calls Tryz.prog 33 #[.pointer (some ⟨ν.r,0,none⟩)] w (OwnInts w (orderL p.A.F p.L)) :=
 order_any x.m x.i.n1 x.i.ga.n (fun f hf => ((x.i.mem f).1 hf).1) (RgD.len32 x.i)
theorem pthere (x : PAt w col ν p k) : Calls Tryz.prog 15 #[.pointer (some ⟨ν.r,0,none⟩)] w (OwnInts w (thereL p.X.T p.X.n)) := by
 have := there_any x.m (by rw [x.f.n];exact x.i.gx.n.2)
 rwa [x.f.n] at this
theorem pframes (x : PAt w col ν p k) : Calls Tryz.prog 14 #[.pointer (some ⟨ν.r,0,none⟩)] w (OwnFrames w p.A) := RgV.frames_any x.m x.i.n1
theorem new_grow {w0 : World} {c0 : Nat → Nat} (hg : Grow w w0) (hz : ∀ i,i < w.heap.size → c0 i = 0) (hw : Went w0 c0 w' col') : Grow w w' := hg.then hw.kept fun i hi m => by have := hz i hi;have := m.2;omega
theorem do_nil (c : Int) (w : World) (a1 a2 a3 a4 a5 : Int) : Calls Tryz.prog 13 #[.pointer none,.int .i64 c,.agg #[.int .i64 a1,.int .i64 a2,.int .i64 a3,.int .i64 a4,.int .i64 a5,.slice none 0 0]] w fun e w' => e = .returned (.agg #[.int .i64 12,.int .i64 0,.int .i64 0,.slice none 0 0]) ∧ Grow w w' := by
 have hb6 := Blk.new (w.alloc (.cells #[.int .i64 a1,.int .i64 a2,.int .i64 a3,.int .i64 a4,.int .i64 a5,.slice none 0 0] 30)) 27 [.int .i64 0,.int .i64 0,.int .i64 0,.slice none 0 0]
 have hs5 : (w.alloc (.cells #[.int .i64 a1,.int .i64 a2,.int .i64 a3,.int .i64 a4,.int .i64 a5,.slice none 0 0] 30)).heap.size = w.heap.size + 1 := by simp
 rw [hs5] at hb6
 have hg : Grow w ((w.alloc (.cells #[.int .i64 a1,.int .i64 a2,.int .i64 a3,.int .i64 a4,.int .i64 a5,.slice none 0 0] 30)).alloc (.cells #[.int .i64 0,.int .i64 0,.int .i64 0,.slice none 0 0] 27)) := ((Kept.refl _ _).alloc _).alloc _
 have HB := hid hb6
 have HG0 := hid hg
 have HS5 := hid hs5
 clear hb6 hg hs5
 go_enter Tryz.func13,Tryz.ntmps13
 go_upto_region 1 with (fail)
 rw [HS5.out] at *
 generalize (w.alloc (.cells #[.int .i64 a1,.int .i64 a2,.int .i64 a3,.int .i64 a4,.int .i64 a5,.slice none 0 0] 30)).alloc (.cells #[.int .i64 0,.int .i64 0,.int .i64 0,.slice none 0 0] 27) = w0 at *
 go_wp2_with (first
  | (go_at_call 39;(with_reducible refine (code_any _ _).mono ?_);rintro e wz ⟨rfl,hg⟩;have HG := hid hg;have HBZ := hid (HB.out.grow hg);clear hg)
  | (refine wpList_store_row rfl 27 _ _ rfl (w.heap.size + 1) #[.int .i64 12,.int .i64 0,.int .i64 0,.slice none 0 0] rfl rfl _ _ HBZ.out MdC.res_size rfl (by simp [Value.oneCell']) ?_))
 have HR := hid (set_row HBZ.out #[.int .i64 12,.int .i64 0,.int .i64 0,.slice none 0 0])
 refine MdC.ret_res (g := w.heap.size + 1) rfl rfl HR.out.1 rfl ?_
 exact ⟨rfl,(HG0.out.trans HG.out).then HR.out.2 fun i hi e => by omega⟩
end
end RgQ
end Go.Proofs.YtbnkpnllgoghnaaGreat
