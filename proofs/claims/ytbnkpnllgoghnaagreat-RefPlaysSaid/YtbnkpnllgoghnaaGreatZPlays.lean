/-
 The statement RefPlays,walked.
-/
import Derived.Test.YtbnkpnllgoghnaaGreatPo
import Derived.LoopN
import Derived.Deep.CutRange
namespace Go.Proofs.YtbnkpnllgoghnaaGreat.LwPlays
open Go.ChangeShapes Go.WideShapes Go.ChangeAt Go.RowKit
open Mem Blk Cells Orow Calls13 MdNear RfP RgS RgV RgQ RgN RgTw RdS RdB RdE RdG RdH Told16 Stages
open MdM (Md MdOp Re)
open RfM (Pl)
open RgMd (fine_q bytes_take)
section
variable {H : Type} {enc : TypeId × Value → H} {w : World} {base : Nat} {spare : Nat → Bool} {held : Bool}
def IntsAt (w : World) (A : Option Addr) (len _cap : Nat) : Prop := ∃ d,Sl w w.heap.size .i64 A len d
theorem which_open {A : Option Addr} {len cap fuel : Nat} {x : DataW H × List MemPlace} (h : DataW.trod enc Tryz.prog w base spare held fuel 33 [.slice A len cap] = some x) : IntsAt w A len cap := Args13.ints_open h
end
section
variable {w wx : World} {A : Option Addr} {len cap b q : Nat} {x : CallV}
theorem call_grow (h : CallAt w b q x) (hk : Grow w wx) : CallAt wx b q x := by
 obtain ⟨d,hd,hb,h1,h2⟩ := h.da
 exact ⟨hk.cellN h.c id,hk.cellN h.k id,hk.cellN h.p id,hk.cellN h.h id,hk.cellN h.o id,hk.cellN h.n id,hk.cellN h.d id,⟨d,(Sl.kept hd hk (Nat.le_refl _) fun _ _ e => e).more hk.size,hb,h1,h2⟩,h.oB⟩
theorem calls_grow (h : CallsAt w A len cap) (hk : Grow w wx) : CallsAt wx A len cap := by
 obtain ⟨h1,h2,h3⟩ := h
 refine ⟨h1,h2,fun h0 => ?_⟩
 obtain ⟨b,off,e,hb,hc⟩ := h3 h0
 exact ⟨b,off,e,Nat.lt_of_lt_of_le hb hk.size,fun i hi => by obtain ⟨x,hx⟩ := hc i hi;exact ⟨x,call_grow hx hk⟩⟩
theorem fine_late (h : CallsAt w A len cap) (hk : Grow w wx) : Calls Tryz.prog 18 #[.slice A len cap,.int .i64 60] wx fun e w' => wx = w' ∧ ∃ b,e = .returned (.bool b) ∧ (b = true → len ≤ 60 ∧ ∀ b off,A = some ⟨b,off,none⟩ → ∀ i,i < len → ∀ x,CallAt w b (off + i * 7) x → x.len ≤ 40) :=
 (fine_q 60 (calls_grow h hk)).mono fun e w' ⟨he,b,h1,h2⟩ => ⟨he,b,h1,fun hb => ⟨by have := (h2 hb).1;omega,fun b off e i hi x hx => (h2 hb).2 b off e i hi x (call_grow hx hk)⟩⟩
end
def PLoop (w : World) (ν : Nm) (ρ : Rn) (M g : Nat) (i : Value) (wx : World) : Prop := ∃ (j : Nat) (p : Pl) (cA cB : Nat → Nat),j + g = M ∧ i = .int .i64 (j : Int) ∧ T2 w ν ρ wx cA p (50 * j) cB p
def MidR (w : World) (ν : Nm) (ρ : Rn) (j : Nat) (wx : World) : Prop := ∃ (p : Pl) (cA cB : Nat → Nat),T2 w ν ρ wx cA p (50 * j) cB p
def CBox (w w0 : World) (g : Nat) (wx : World) : Prop := ∃ (y : CallV) (d : List Int),Blk wx g 57 [.int .i64 y.c,.int .i64 y.k,.int .i64 y.p,.int .i64 y.h,.int .i64 y.o,.int .i64 y.n,.slice y.A y.len y.cap] ∧ Sl w w.heap.size .u8 y.A y.len d ∧ MdM.Bytes d ∧ y.len ≤ y.cap ∧ y.cap ≤ maxLen ∧ y.len ≤ 40 ∧ y.o ≤ 9223372036854775807 ∧ Kept (fun k => k = g) w0 wx
section
variable {w : World} {A A2 : Option Addr} {len cap len2 cap2 : Nat} {a b c : Int}
set_option maxRecDepth 100000 in
set_option maxHeartbeats 16000000 in
theorem plays_good (h : CallsAt w A len cap) (h2 : IntsAt w A2 len2 cap2) (n N q : Nat) (n1 : 1 ≤ n) (n48 : n ≤ 48) (N1 : 1 ≤ N) (N6 : N ≤ 6) (q1 : 1 ≤ q) (q32 : q ≤ 32) : Calls Tryz.prog 4 #[.int .i64 (n : Int),.int .i64 (N : Int),.int .i64 (q : Int),.slice A len cap,.slice A2 len2 cap2] w fun e w' => e = .returned (.bool true) ∧ Below w.heap.size w w' := by
 have HFI : Hid (∀ wx,Grow w wx → Calls Tryz.prog 18 #[.slice A len cap,.int .i64 60] wx fun e w' => wx = w' ∧ ∃ b,e = .returned (.bool b) ∧ (b = true → len ≤ 60 ∧ ∀ b off,A = some ⟨b,off,none⟩ → ∀ i,i < len → ∀ x,CallAt w b (off + i * 7) x → x.len ≤ 40)) := fun wx hk => fine_late h hk
 obtain ⟨hlc,hcm,hops⟩ := h
 obtain ⟨zs,hzs⟩ := h2
 unfold maxLen at hcm
 have HOPS := Lib.hid hops
 have HZS := Lib.hid hzs
 have HNN := Lib.hid (And.intro (And.intro n1 n48) (And.intro N1 N6))
 have HNA := Lib.hid (pnew n N q n1 n48 N1 N6 q1 q32 w)
 have HNB : Hid (∀ wx,Calls Tryz.prog 16 #[.int .i64 (n : Int),.int .i64 (N : Int),.int .i64 (q : Int)] wx (RdF.NewP n N q wx fun _ => 0)) := fun wx => RdF.new_good n N q n1 n48 N1 N6 q1 q32 wx _
 clear hops hzs n1 n48 N1 N6 q1 q32
 go_enter Tryz.func4,Tryz.ntmps4
 go_upto_region 2 with (first
  | (go_at_call 12;(with_reducible refine HNA.out.mono ?_);rintro e u0 ⟨ν,cA0,rfl,hp,hg,hz⟩;have HP0 := Lib.hid hp;have HG0 := Lib.hid hg;have HZ0 := Lib.hid hz;clear hp hg hz HNA)
  | (go_at_call 16;(with_reducible refine (HNB.out _).mono ?_);rintro e u1 ⟨ρ,cB0,rfl,hp,hl,hg⟩;have HS := Lib.hid (RdH.two_new HP0.out HG0.out HZ0.out hp hg fun i hi => hl.old i hi);clear hp hg hl))
 clear HP0 HG0 HZ0 HNB
 generalize paint u0.heap.size 0 cA0 = cA1 at HS
 have HDK := Lib.hid (disk_any HS.out.a.x.m)
 go_upto_if 40 with (first
  | (go_at_call 17;(with_reducible refine HDK.out.mono ?_);rintro e w1 ⟨rfl,rfl⟩)
  | (go_at_call 18;(with_reducible refine (HFI.out _ HS.out.a.g).mono ?_);rintro e w' ⟨rfl,bf,rfl,hb⟩;have HB := Lib.hid hb;clear hb;cases bf))
 ·go_wp2_with (go_at_call 11;(with_reducible refine (told_any _).mono ?_);rintro e wt ⟨rfl,hge⟩;have HGE := Lib.hid hge;clear hge)
  go_ret
  exact ⟨rfl,Grow.below (HS.out.a.g.trans HGE.out)⟩
 have hl60 : len ≤ 60 := (HB.out trivial).1
 have H40 := Lib.hid (HB.out trivial).2
 clear HB HFI HDK
 go_wp2
 go_loopg [13] len (PLoop w ν ρ len)
 case atStart => exact ⟨0,_,_,_,by omega,rfl,HS.out⟩
 case round =>
  clear HS
  obtain ⟨j,p,cA,cB,hg,rfl,hs⟩ := hrel
  have HG := Lib.hid hg
  have HI := Lib.hid hs
  clear hg hs
  by_cases hj : j < len
  ·have hjz : (j : Int) < (len : Int) := by omega
   have HJ := Lib.hid hj
   go_upto_region 11 with (fail)
   go_cut [59] from 48 to 60 (fun s59 wx => (∃ bb : Bool,s59 = .bool bb ∧ (bb = true → j < len2)) ∧ wr = wx)
   case first =>
    by_cases hj2 : j < len2
    ·have hj2z : (j : Int) < (len2 : Int) := by omega
     obtain ⟨bz,oz,rfl,_,hcz⟩ := HZS.out.at_ (by omega)
     have cz := HI.out.a.g.cellN (hcz j hj2) id
     clear hcz
     go_wp2
     go_meet
     exact ⟨⟨_,rfl,fun _ => hj2⟩,rfl⟩
    ·have hj2z : ¬ (j : Int) < (len2 : Int) := by omega
     go_wp2
     go_meet
     exact ⟨⟨false,rfl,fun h => by cases h⟩,rfl⟩
   case rest =>
    obtain ⟨⟨bb,rfl,hbb⟩,rfl⟩ := hcut
    have HBB := Lib.hid hbb
    clear hbb
    go_upto_if 59 with (fail)
    go_cut [14] from 60 to 77 (fun _ wx => MidR w ν ρ j wx)
    case first =>
     cases bb with
     | false =>
      go_wp2
      go_meet
      exact ⟨p,cA,cB,HI.out⟩
     | true =>
      have hj2 := HBB.out rfl
      have hj2z : (j : Int) < (len2 : Int) := by omega
      obtain ⟨bz,oz,rfl,_,hcz⟩ := HZS.out.at_ (by omega)
      have cz := HI.out.a.g.cellN (hcz j hj2) id
      clear hcz HBB
      go_upto_region 13 with (fail)
      generalize bits BinOp.and IntKind.i64 (zs[j]?.getD 0 / 4) 7 = mm
      clear cz hj2 hj2z
      have HI1 := Lib.hid HI.out.drew
      have HDK := Lib.hid (disk_any HI1.out.a.x.m)
      have HFL := Lib.hid (pfail HI1.out.a.x mm)
      have HOM := Lib.hid HI1.out.out
      have HRF : Hid (∀ wx cx,RdP wx cx ρ p → Calls Tryz.prog 20 #[.pointer (some ⟨ρ.r.m,0,none⟩),.int .i64 mm] wx fun e w' => e = .returned (.bool (Dev.failB mm)) ∧ Kept (· ≠ ρ.m) wx w' ∧ ∃ col',WentD wx cx w' col' ∧ RdP w' col' ρ (fl p mm)) := fun wx cx h => rfail h mm
      generalize Dev.failB mm = bfl at HFL HRF
      have q3 := up_cell (F := fun i => i ≠ ρ.m) (w := wr.drew) HI1.out.b.c3 (fun h => h rfl)
      refine wp_region_stages (Kept fun i => i ≠ ρ.m) (kept_refl _) (kept_trans _) [([0,2,4,5,6,7,8],1),([],3),([],9)] [10] (by kernel_rfl) (by kernel_rfl) ?_
      simp only [selSt,sel,ZmC,ZmN,ZgS,ZgZ]
      refine st_cons fun K1 hK1 => ?_
      repeat (go_big_quiet_step (fail))
      refine wpQuiet_nil ?_
      clear q3
      go_wp2_with (go_at_call 17;(with_reducible refine HDK.out.mono ?_);rintro e w' ⟨rfl,rfl⟩)
      refine norm_up (hK1 _ _ (Kept.refl _ _) (st_cons fun K2 hK2 => ?_))
      clear hK1 K1
      repeat (go_big_quiet_step (fail))
      refine wpQuiet_nil ?_
      go_wp2_with (go_at_call 19;(with_reducible refine HFL.out.mono ?_);rintro e w6 ⟨rfl,cA6,hw,hp⟩;have HS6 := Lib.hid (HI1.out.wentA hw hp);have HK6 : Hid (Kept (fun i => i ≠ ρ.m) wr.drew w6) := hw.kept.mono fun i _ m e => not_mine HOM.out (e ▸ m);clear hw hp)
      refine norm_up (hK2 _ _ HK6.out (st_cons fun K3 hK3 => ?_))
      clear hK2 K2
      repeat (go_big_quiet_step (fail))
      refine wpQuiet_nil ?_
      go_wp2_with (go_at_call 20;(with_reducible refine (HRF.out _ _ HS6.out.b).mono ?_);rintro e w7 ⟨rfl,hk,cB7,hw,hp⟩;have HS7 := Lib.hid (HS6.out.wentB hw hp);have HK7 := Lib.hid hk;clear hw hp hk)
      refine norm_up (hK3 _ _ HK7.out (st_nil fun K4 hK4 => ?_))
      clear hK3 K3
      repeat (go_big_quiet_step (fail))
      refine wpQuiet_nil (hK4 _ ?_)
      clear hK4 K4
      cases bfl
      all_goals
       go_wp2
       go_meet
       exact ⟨_,_,_,HS7.out⟩
    case rest =>
     clear HI
     obtain ⟨p,cA,cB,hs⟩ := hcut
     have HI := Lib.hid hs
     clear hs HBB
     obtain ⟨ab,ao,rfl,hab,hall⟩ := HOPS.out (by omega)
     obtain ⟨x,hx⟩ := hall j hj
     have HX := Lib.hid hx
     have HX40 := Lib.hid (H40.out _ _ rfl j hj x hx)
     have cc := HI.out.a.g.cellN hx.c id
     have ck := HI.out.a.g.cellN hx.k id
     have cp := HI.out.a.g.cellN hx.p id
     have ch := HI.out.a.g.cellN hx.h id
     have co := HI.out.a.g.cellN hx.o id
     have cn := HI.out.a.g.cellN hx.n id
     have cd := HI.out.a.g.cellN hx.d id
     clear hall hx hj hab
     go_upto_region 16 with (fail)
     have hcb := Blk.new wc 57 [.int .i64 x.c,.int .i64 x.k,.int .i64 x.p,.int .i64 x.h,.int .i64 x.o,.int .i64 x.n,.slice x.A x.len x.cap]
     have hgc : Grow wc (wc.alloc (.cells #[.int .i64 x.c,.int .i64 x.k,.int .i64 x.p,.int .i64 x.h,.int .i64 x.o,.int .i64 x.n,.slice x.A x.len x.cap] 57)) := (Kept.refl _ _).alloc _
     have HI2 := Lib.hid (HI.out.grow hgc)
     obtain ⟨g,hgg⟩ : ∃ g,g = wc.heap.size := ⟨_,rfl⟩
     have HFREE : Hid (w.heap.size ≤ g ∧ Out (paint wc.heap.size 0 cA) g ∧ OutD (paint wc.heap.size 0 cB) g) := ⟨by rw [hgg];exact HI.out.a.g.size,.inl (by rw [hgg,paint_new (Nat.le_refl _)];decide),.inl (by rw [hgg,paint_new (Nat.le_refl _)];decide)⟩
     rw [← hgg] at hcb HI2 HFREE ⊢
     generalize paint g 0 cA = cA2 at HI2 HFREE
     generalize paint g 0 cB = cB2 at HI2 HFREE
     generalize wc.alloc (.cells #[.int .i64 x.c,.int .i64 x.k,.int .i64 x.p,.int .i64 x.h,.int .i64 x.o,.int .i64 x.n,.slice x.A x.len x.cap] 57) = wk at hcb hgc HI2 ⊢
     have HCB := Lib.hid hcb
     clear hcb hgc hgg cc ck cp ch co cn cd HI
     go_upto_if 83 with (fail)
     have HNEAR : Hid (∀ wx,Calls Tryz.prog 21 #[.agg #[.int .i64 x.c,.int .i64 x.k,.int .i64 x.p,.int .i64 x.h,.int .i64 x.o,.int .i64 x.n,.slice x.A x.len x.cap],.int .i64 (n : Int),.int .i64 (N : Int)] wx (NearP n N x.A x.len x.cap wx)) := fun wx => near_any x.c x.k x.p x.h x.o x.n x.A x.len x.cap n N (by have := HNN.out;omega) (by have := HNN.out;omega) (by have := HNN.out;omega) (by have := HNN.out;omega) (by obtain ⟨d,_,_,h,_⟩ := HX.out.da;exact h) wx
     have c0 := HCB.out.cell 0
     have c1 := HCB.out.cell 1
     have c2 := HCB.out.cell 2
     have c3 := HCB.out.cell 3
     have c4 := HCB.out.cell 4
     have c5 := HCB.out.cell 5
     have c6 := HCB.out.cell 6
     have cf := HCB.out.frozen
     simp only [ZeZ,ZeS] at c0 c1 c2 c3 c4 c5 c6
     go_cut [] from 83 to 88 (fun wx => CBox w wk g wx)
     case first =>
      go_wp2_with (go_at_call 21;(with_reducible refine (HNEAR.out _).mono ?_);rintro e wn ⟨c',k',p',h',o',n',l',rfl,hr1,hr2,hr3,hr4,hr5,hr6,hr7,hl,hg⟩;have HNR := Lib.hid (And.intro hr6 hl);have HGN := Lib.hid hg;have hbn := HCB.out.grow hg;have c0 := hbn.cell 0;have c1 := hbn.cell 1;have c2 := hbn.cell 2;have c3 := hbn.cell 3;have c4 := hbn.cell 4;have c5 := hbn.cell 5;have c6 := hbn.cell 6;have cf := hbn.frozen;simp only [ZeZ,ZeS] at c0 c1 c2 c3 c4 c5 c6;clear hbn hg hr1 hr2 hr3 hr4 hr5 hr6 hr7 hl)
      ·go_meet
       have hb := (((((((HCB.out.grow HGN.out).set 0 (.int .i64 (c' : Int))).set 1 (.int .i64 (k' : Int))).set 2 (.int .i64 (p' : Int))).set 3 (.int .i64 (h' : Int))).set 4 (.int .i64 (o' : Int))).set 5 (.int .i64 (n' : Int))).set 6 (.slice x.A l' x.cap)
       have hk := (((((((Grow.kept (F := fun k => k = g) HGN.out).trans (kept_set _ g 0 (.int .i64 (c' : Int)))).trans (kept_set _ g 1 (.int .i64 (k' : Int)))).trans (kept_set _ g 2 (.int .i64 (p' : Int)))).trans (kept_set _ g 3 (.int .i64 (h' : Int)))).trans (kept_set _ g 4 (.int .i64 (o' : Int)))).trans (kept_set _ g 5 (.int .i64 (n' : Int)))).trans (kept_set _ g 6 (.slice x.A l' x.cap))
       obtain ⟨d,hd,hdb,hl1,hl2⟩ := bytes_take (l := l') HX.out.da (by have := HNR.out.2;omega) (Kept.refl (fun _ => False) w) (fun _ _ h => h)
       exact ⟨⟨c',k',p',h',o',n',x.A,l',x.cap⟩,d,hb,hd,hdb,hl1,hl2,by have := HNR.out.2;have := HX40.out;show l' ≤ 40;omega,by have := HNR.out.1;show (o' : Int) ≤ _;omega,hk⟩
      ·go_meet
       obtain ⟨d,hd,hdb,hl1,hl2⟩ := HX.out.da
       exact ⟨x,d,HCB.out,hd,hdb,hl1,hl2,HX40.out,HX.out.oB.2,Kept.refl _ _⟩
     clear c0 c1 c2 c3 c4 c5 c6 cf
     case rest =>
      obtain ⟨y,d,hyb,hd,hdb,hl1,hl2,hl40,hoB,hk⟩ := hcut
      have HI3 := Lib.hid ((HI2.out.turn hk fun i _ e => by have e : i = g := e;rw [e];exact HFREE.out).drew)
      have HF3 : Hid (w.heap.size ≤ g ∧ Out (paint wk.heap.size 0 cA2) g ∧ OutD (paint wk.heap.size 0 cB2) g) := ⟨HFREE.out.1,out_eq HFREE.out.2.1 (paint_old HCB.out.lt),by unfold OutD;rw [paint_old HCB.out.lt];exact HFREE.out.2.2⟩
      generalize paint wk.heap.size 0 cA2 = cA3 at HI3 HF3
      generalize paint wk.heap.size 0 cB2 = cB3 at HI3 HF3
      have HYB := Lib.hid (hyb.grow (Kept.drew' wc))
      have HD := Lib.hid (And.intro hd (And.intro hdb (And.intro hl1 (And.intro hl2 (And.intro hl40 hoB)))))
      clear hyb hd hdb hl1 hl2 hl40 hoB hk HNEAR HCB HI2 HFREE HX HX40
      have hj60 : 50 * j ≤ 3000 := by have := HJ.out;omega
      have hsl : Sl wc.drew wc.drew.heap.size .u8 y.A y.len d := (Sl.kept HD.out.1 HI3.out.a.g (Nat.le_refl _) fun _ _ e => e).more HI3.out.a.g.size
      obtain ⟨rc,rp,rh,rd,p',hr⟩ : ∃ rc rp rh rd p',p.run y.c ⟨y.k,y.p,y.h,y.o,y.n,d⟩ = (⟨rc,rp,rh,rd⟩,p') := ⟨_,_,_,_,_,rfl⟩
      have HDO := Lib.hid (pdo (dc := y.cap) (o := ⟨y.k,y.p,y.h,y.o,y.n,d⟩) HI3.out.a.x y.c hsl (by have := HD.out.2.2.2.2.1;omega) HD.out.2.2.2.2.2 HD.out.2.1 (by omega))
      have HDD : Hid (∀ wx cx,Grow w wx → (∀ i,i < w.heap.size → cx i = 0) → RdP wx cx ρ p → Calls Tryz.prog 23 #[.pointer (some ⟨ρ.m,0,none⟩),.int .i64 y.c,.agg #[.int .i64 y.k,.int .i64 y.p,.int .i64 y.h,.int .i64 y.o,.int .i64 y.n,.slice y.A y.len y.cap]] wx (DPost ρ wx cx (⟨rc,rp,rh,rd⟩,p'))) := fun wx cx hg hz h => by
       have := do_any (c := y.c) (o := ⟨y.k,y.p,y.h,y.o,y.n,d⟩) (D := y.A) (dl := y.len) (dc := y.cap) h HI3.out.a.x.i ((Sl.kept HD.out.1 hg (Nat.le_refl _) fun _ _ e => e).more hg.size) HD.out.2.1 HD.out.2.2.1 HD.out.2.2.2.1 (fun h0 a ea => .inl (by rw [hz _ (PmT.sl_lt HD.out.1 h0 ea)];decide)) (fun q hq => HI3.out.a.x.m.dev.curOk (by rw [HI3.out.a.x.i.dN];exact hq)) HI3.out.a.x.b (by omega)
       rw [hr] at this
       exact this
      rw [hr] at HDO
      have y0 := up_cell (F := fun i => i ≠ g) (w := wc.drew) (p := ⟨g,0,none⟩) (HYB.out.cell 0) (fun e => e rfl)
      have y1 := up_cell (F := fun i => i ≠ g) (w := wc.drew) (p := ⟨g,1,none⟩) (HYB.out.cell 1) (fun e => e rfl)
      have y2 := up_cell (F := fun i => i ≠ g) (w := wc.drew) (p := ⟨g,2,none⟩) (HYB.out.cell 2) (fun e => e rfl)
      have y3 := up_cell (F := fun i => i ≠ g) (w := wc.drew) (p := ⟨g,3,none⟩) (HYB.out.cell 3) (fun e => e rfl)
      have y4 := up_cell (F := fun i => i ≠ g) (w := wc.drew) (p := ⟨g,4,none⟩) (HYB.out.cell 4) (fun e => e rfl)
      have y5 := up_cell (F := fun i => i ≠ g) (w := wc.drew) (p := ⟨g,5,none⟩) (HYB.out.cell 5) (fun e => e rfl)
      have y6 := up_cell (F := fun i => i ≠ g) (w := wc.drew) (p := ⟨g,6,none⟩) (HYB.out.cell 6) (fun e => e rfl)
      have HGL : Hid (g < wc.drew.heap.size) := HYB.out.lt
      clear hsl hr HYB
      go_upto_region 18 with (fail)
      refine wp_region_stages (Kept fun i => i ≠ g) (kept_refl _) (kept_trans _) [([0,1,2,3,4,6,7,8,9,10],5),([],11),([],12),([13,14,15,16],17)] [18,19] (by kernel_rfl) (by kernel_rfl) ?_
      simp only [selSt,sel,ZmC,ZmN,ZgS,ZgZ]
      generalize wc.drew = u0 at *
      refine st_cons fun K1 hK1 => ?_
      repeat (go_big_quiet_step (fail))
      refine wpQuiet_nil ?_
      clear y0 y1 y2 y3 y4 y5 y6
      go_wp2_with (go_at_call 13;(with_reducible refine HDO.out.mono ?_);rintro e w5 ⟨A5,n5,k5,cA5,rfl,hdt,_,hnew,hw,hp⟩;have HK5 : Hid (Kept (fun i => i ≠ g) u0 w5) := hw.kept.mono fun i _ m e => not_mine HF3.out.2.1 (e ▸ m);have HS5 := Lib.hid (HI3.out.wentA hw hp);have HT5 := Lib.hid hdt.s;have HN5 : Hid (0 < n5 → ∀ x,A5 = some x → OutD (paint u0.heap.size 0 cB3) x.block) := (fun h0 x ex => .inl (by rw [paint_new (hnew h0 x ex)];decide));have HF5 : Hid (OutD (paint u0.heap.size 0 cB3) g) := (by show OutD _ g;unfold OutD;rw [paint_old HGL.out];exact HF3.out.2.2);clear hdt hnew hw hp)
      generalize paint u0.heap.size 0 cB3 = cB5 at HS5 HN5 HF5
      refine norm_up (hK1 _ _ HK5.out (st_cons fun K2 hK2 => ?_))
      clear hK1 K1
      repeat (go_big_quiet_step (fail))
      refine wpQuiet_nil ?_
      go_wp2_with (go_at_call 23;(with_reducible refine (HDD.out _ _ HS5.out.a.g HS5.out.z HS5.out.b).mono ?_);rintro e w6 ⟨rv,rfl,⟨A6,n6,k6,rfl,hs6,_⟩,cB6,hw,hp⟩;have HK6 : Hid (Kept (fun i => i ≠ g) w5 w6) := hw.kept.mono fun i _ m e => (by have h1 := HF5.out;unfold OutD at h1;have h2 := m.2;rw [e] at h2;omega);have HS6 := Lib.hid (HS5.out.wentB hw hp);have HT6 := Lib.hid hs6;have HT56 : Hid (Sl w6 w6.heap.size .u8 A5 n5 rd) := (sl_kept HT5.out hw.kept fun h0 x ex m => by have h1 := HN5.out h0 x ex;unfold OutD at h1;have h2 := m.2;omega).more hw.kept.size;clear hs6 hw hp)
      refine norm_up (hK2 _ _ HK6.out (st_cons fun K3 hK3 => ?_))
      clear hK2 K2
      repeat (go_big_quiet_step (fail))
      refine wpQuiet_nil ?_
      go_wp2_with (go_at_call 22;(with_reducible refine (rsame_true HT56.out HT6.out).mono ?_);rintro e w7 ⟨rfl,hg⟩;have HX7 := Lib.hid hg;have HS7 := Lib.hid (HS6.out.grow hg);clear hg)
      refine norm_up (hK3 _ _ (Grow.kept HX7.out) (st_cons fun K4 hK4 => ?_))
      clear hK3 K3
      repeat (go_big_quiet_step (fail))
      refine wpQuiet_nil ?_
      go_wp2_with (go_at_call 24;(with_reducible refine (RdI.same_any HS7.out.a.x HS7.out.b).mono ?_);rintro e w8 ⟨rfl,hg⟩;have HX8 := Lib.hid hg;have HS8 := Lib.hid (HS7.out.grow hg);clear hg)
      refine norm_up (hK4 _ _ (Grow.kept HX8.out) (st_nil fun K5 hK5 => ?_))
      clear hK4 K4
      repeat (go_big_quiet_step (fail))
      refine wpQuiet_nil (hK5 _ ?_)
      clear hK5 K5
      go_wp2
      go_roundg (gk - 1)
      case measure => have := HG.out;have := HJ.out;omega
      case rel => exact ⟨j + 1,p',_,_,by have := HG.out;have := HJ.out;omega,by go_num,HS8.out.up (by omega)⟩
  ·have hjN : j = len := by have := HG.out;omega
   go_wp2_with (go_at_call 11;(with_reducible refine (told_any _).mono ?_);rintro e wt ⟨rfl,hge⟩;have HGE := Lib.hid hge;clear hge)
   go_ret
   exact ⟨rfl,Grow.below (HI.out.a.g.trans HGE.out)⟩
theorem plays_bad (h : ¬ ((1 ≤ a ∧ a ≤ 48) ∧ (1 ≤ b ∧ b ≤ 6) ∧ 1 ≤ c ∧ c ≤ 32)) : Calls Tryz.prog 4 #[.int .i64 a,.int .i64 b,.int .i64 c,.slice A len cap,.slice A2 len2 cap2] w fun e w' => e = .returned (.bool true) ∧ Below w.heap.size w w' := by
 have HNA := Lib.hid (RgL.new_bad a b c h w)
 have HNB : Hid (Calls Tryz.prog 16 #[.int .i64 a,.int .i64 b,.int .i64 c] w fun e w' => e = .returned (.pointer none) ∧ Grow w w') := by
  by_cases h1 : (1 ≤ a ∧ a ≤ 48) ∧ 1 ≤ b ∧ b ≤ 6
  ·obtain ⟨n,rfl⟩ := Int.eq_ofNat_of_zero_le (show 0 ≤ a by omega)
   obtain ⟨N,rfl⟩ := Int.eq_ofNat_of_zero_le (show 0 ≤ b by omega)
   exact RdF.new_few n N (by omega) (by omega) (by omega) (by omega) c (fun h2 => h ⟨h1.1,h1.2,h2⟩) w
  ·exact RdF.new_bad a b c h1 w
 clear h
 go_enter Tryz.func4,Tryz.ntmps4
 go_wp2_with (first
  | (go_at_call 12;(with_reducible refine HNA.out.mono ?_);rintro e w' ⟨rfl,rfl⟩)
  | (go_at_call 16;(with_reducible refine HNB.out.mono ?_);rintro e u1 ⟨rfl,hg⟩;have HG := Lib.hid hg;clear hg)
  | (go_at_call 11;(with_reducible refine (told_any _).mono ?_);rintro e wt ⟨rfl,hge⟩;have HGE := Lib.hid hge;clear hge))
 go_ret
 exact ⟨rfl,Grow.below (HG.out.trans HGE.out)⟩
theorem plays_any (h : CallsAt w A len cap) (h2 : IntsAt w A2 len2 cap2) : Calls Tryz.prog 4 #[.int .i64 a,.int .i64 b,.int .i64 c,.slice A len cap,.slice A2 len2 cap2] w fun e w' => e = .returned (.bool true) ∧ Below w.heap.size w w' := by
 by_cases hb : (1 ≤ a ∧ a ≤ 48) ∧ (1 ≤ b ∧ b ≤ 6) ∧ 1 ≤ c ∧ c ≤ 32
 ·obtain ⟨n,rfl⟩ := Int.eq_ofNat_of_zero_le (show 0 ≤ a by omega)
  obtain ⟨N,rfl⟩ := Int.eq_ofNat_of_zero_le (show 0 ≤ b by omega)
  obtain ⟨q,rfl⟩ := Int.eq_ofNat_of_zero_le (show 0 ≤ c by omega)
  exact plays_good h h2 n N q (by omega) (by omega) (by omega) (by omega) (by omega) (by omega)
 ·exact plays_bad hb
end
end Go.Proofs.YtbnkpnllgoghnaaGreat.LwPlays
