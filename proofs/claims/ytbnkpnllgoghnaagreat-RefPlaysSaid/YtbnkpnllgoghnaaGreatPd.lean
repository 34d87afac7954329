import Derived.Test.YtbnkpnllgoghnaaGreatPc
import Derived.Laws.ResultCell
set_option linter.unusedVariables false
namespace Go.Proofs.YtbnkpnllgoghnaaGreat
open Go.Lib (hid)
namespace MdC
open Go.ChangeShapes Go.WideShapes Go.ChangeAt Go.RowKit
open Mem Blk Cells Orow GrC Txt MdM Stages
open HdM (lst hnd cnt sum lst_eq hnd_at hnd_none hnd_cases cnt_yes cnt_no cnt_le sum_le)
def tcell (T : Nat → Bool) (i : Nat) : Value := .bool (T i)
def bcell (B : Nat → List Int) (i : Nat) : Value := .string (strOfNums (B i))
structure SM (w : World) (G : Nat → Prop) (gT cT gB cB gH cH : Nat) (q cp : Nat → Nat) (a : Md) : Prop where
 tb : OR w gT 4 1 cT a.n (tcell a.T)
 bb : OR w gB 9 1 cB a.n (bcell a.B)
 hb : OR w gH 33 1 cH a.N (scell q cp)
 rb : ∀ i,i < a.N → OR w (q i) 3 1 (cp i) 6 (hcell (a.H i))
 inj : ∀ i j,i < a.N → j < a.N → q i = q j → i = j
 ne : gT ≠ gB ∧ gT ≠ gH ∧ gB ≠ gH
 nq : ∀ i,i < a.N → q i ≠ gT ∧ q i ≠ gB ∧ q i ≠ gH
 inG : G gT ∧ G gB ∧ G gH
 qG : ∀ i,i < a.N → G (q i)
abbrev sval (gT cT gB cB gH cH : Nat) (a : Md) : Value := .agg #[.slice (some ⟨gT,0,none⟩) a.n cT,.slice (some ⟨gB,0,none⟩) a.n cB,.slice (some ⟨gH,0,none⟩) a.N cH]
structure SAt (w : World) (G : Nat → Prop) (v : Value) (a : Md) : Prop where
 good : MdM.Good a
 mem : ∃ gT cT gB cB gH cH q cp,v = sval gT cT gB cB gH cH a ∧ SM w G gT cT gB cB gH cH q cp a
section
variable {w w' : World} {G F X : Nat → Prop} {v : Value} {gT cT gB cB gH cH : Nat} {q cp : Nat → Nat} {a : Md}
theorem SM.kept (h : SM w G gT cT gB cB gH cH q cp a) (hk : Kept F w w') (hF : ∀ k,G k → ¬ F k) : SM w' G gT cT gB cB gH cH q cp a :=
 ⟨h.tb.kept hk (hF _ h.inG.1),h.bb.kept hk (hF _ h.inG.2.1),h.hb.kept hk (hF _ h.inG.2.2),fun i hi => (h.rb i hi).kept hk (hF _ (h.qG i hi)),h.inj,h.ne,h.nq,h.inG,h.qG⟩
theorem SM.mono (h : SM w G gT cT gB cB gH cH q cp a) (hX : ∀ k,k < w.heap.size → G k → X k) : SM w X gT cT gB cB gH cH q cp a :=
 ⟨h.tb,h.bb,h.hb,h.rb,h.inj,h.ne,h.nq,⟨hX _ h.tb.lt h.inG.1,hX _ h.bb.lt h.inG.2.1,hX _ h.hb.lt h.inG.2.2⟩,fun i hi => hX _ (h.rb i hi).lt (h.qG i hi)⟩
theorem SAt.kept (h : SAt w G v a) (hk : Kept F w w') (hF : ∀ k,G k → ¬ F k) : SAt w' G v a := by
 obtain ⟨gT,cT,gB,cB,gH,cH,q,cp,e,hm⟩ := h.mem
 exact ⟨h.good,gT,cT,gB,cB,gH,cH,q,cp,e,hm.kept hk hF⟩
theorem SAt.grow (h : SAt w G v a) (hk : Grow w w') : SAt w' G v a := h.kept hk fun _ _ x => x
theorem SAt.mono (h : SAt w G v a) (hX : ∀ k,k < w.heap.size → G k → X k) : SAt w X v a := by
 obtain ⟨gT,cT,gB,cB,gH,cH,q,cp,e,hm⟩ := h.mem
 exact ⟨h.good,gT,cT,gB,cB,gH,cH,q,cp,e,hm.mono hX⟩
theorem SM.putH (h : SM w G gT cT gB cB gH cH q cp a) {c : Nat} (hc : c < a.N) (j : Nat) (p : Int) : SM (w.setCell ⟨q c,j,none⟩ (.int .i64 p)) G gT cT gB cB gH cH q cp (a.putH c j p) := by
 obtain ⟨n1,n2,n3⟩ := h.nq c hc
 refine ⟨h.tb.other (p := ⟨q c,j,none⟩) n1.symm _,h.bb.other (p := ⟨q c,j,none⟩) n2.symm _,h.hb.other (p := ⟨q c,j,none⟩) n3.symm _,fun i hi => ?_,h.inj,h.ne,h.nq,h.inG,h.qG⟩
 have hi : i < a.N := hi
 by_cases e : i = c
 ·subst e
  refine ((h.rb i hi).set j _).congr fun y hy => ?_
  show (if y = j then Value.int .i64 p else .int .i64 (a.H i y)) = .int .i64 (if i = i ∧ y = j then p else a.H i y)
  by_cases e2 : y = j
  ·rw [if_pos e2,if_pos ⟨rfl,e2⟩]
  ·rw [if_neg e2,if_neg fun x => e2 x.2]
 ·refine ((h.rb i hi).other (p := ⟨q c,j,none⟩) (fun e2 => e (h.inj i c hi hc e2)) _).congr fun y hy => ?_
  show Value.int .i64 (a.H i y) = .int .i64 (if i = c ∧ y = j then p else a.H i y)
  rw [if_neg fun x => e x.1]
theorem SM.putB (h : SM w G gT cT gB cB gH cH q cp a) (p : Nat) (b : List Int) : SM (w.setCell ⟨gB,p,none⟩ (.string (strOfNums b))) G gT cT gB cB gH cH q cp (a.putB p b) :=
 ⟨h.tb.other (p := ⟨gB,p,none⟩) h.ne.1 _,(h.bb.set p _).congr fun i _ => by
  show (if i = p then Value.string (strOfNums b) else .string (strOfNums (a.B i))) = .string (strOfNums (upd a.B p b i))
  by_cases e : i = p
  ·subst e;rw [if_pos rfl,upd_same]
  ·rw [if_neg e,upd_other _ _ e],h.hb.other (p := ⟨gB,p,none⟩) h.ne.2.2.symm _,fun i hi => (h.rb i hi).other (p := ⟨gB,p,none⟩) (h.nq i hi).2.1 _,h.inj,h.ne,h.nq,h.inG,h.qG⟩
theorem SM.flag (h : SM w G gT cT gB cB gH cH q cp a) (p : Nat) (t : Bool) : SM (w.setCell ⟨gT,p,none⟩ (.bool t)) G gT cT gB cB gH cH q cp ⟨a.n,a.N,upd a.T p t,a.B,a.H⟩ :=
 ⟨(h.tb.set p _).congr fun i _ => by
  show (if i = p then Value.bool t else .bool (a.T i)) = .bool (upd a.T p t i)
  by_cases e : i = p
  ·subst e;rw [if_pos rfl,upd_same]
  ·rw [if_neg e,upd_other _ _ e],h.bb.other (p := ⟨gT,p,none⟩) h.ne.1.symm _,h.hb.other (p := ⟨gT,p,none⟩) h.ne.2.1.symm _,fun i hi => (h.rb i hi).other (p := ⟨gT,p,none⟩) (h.nq i hi).1 _,h.inj,h.ne,h.nq,h.inG,h.qG⟩
def ReV (w : World) (base : Nat) (v : Value) (r : Re) : Prop := ∃ A n cap,v = .agg #[.int .i64 r.c,.int .i64 r.p,.int .i64 r.h,.slice A n cap] ∧ Sl w w.heap.size .u8 A n r.d ∧ (0 < n → ∀ x,A = some x → base ≤ x.block)
theorem rev_none (w : World) (base : Nat) (c p h : Int) : ReV w base (.agg #[.int .i64 c,.int .i64 p,.int .i64 h,.slice none 0 0]) ⟨c,p,h,[]⟩ :=
 ⟨none,0,0,rfl,Sl.nil _ _ _ _,fun h => absurd h (by omega)⟩
theorem res_size : (Tryz.prog.info? 27).map (·.size) = some 4 := by kernel_rfl
theorem load_res {g : Nat} {t : TypeId} {x y z b : Value} (hg : Blk w g t [x,y,z,b]) : (loadVar 27 ⟨g,0,none⟩).run Tryz.prog w = .ok (.agg #[x,y,z,b]) w :=
 run_loadVar_row w g t 27 #[x,y,z,b] (0,0) _ hg Tryz.underlying27 rfl res_size
theorem ret_res {fn : Func} {R : Ending → World → Prop} {act : Act} {p g : Nat} {t : TypeId} {x y z b : Value} (h : fn.results = #[.cell p 27]) (hp : act.tmps.getD p undef = .pointer (some ⟨g,0,none⟩)) (hg : Blk w g t [x,y,z,b]) (hd : act.defers = []) (hR : R (.returned (.agg #[x,y,z,b])) w) : bodyPost Tryz.prog fn R .ret act w := by
 refine bodyPost_ret ?_ hd hR
 have hp' : act.tmps[p]?.getD undef = .pointer (some ⟨g,0,none⟩) := by simpa using hp
 simp [results,h,hp',asAddr,load_res hg]
theorem infoU8 : (Tryz.prog.info? 5).map (fun i => (i.zero,i.size,i.bytes)) = some (some (.int .u8 0),1,1) := by kernel_rfl
theorem fail_any (w : World) (c : Int) : Calls Tryz.prog 65 #[.int .i64 c] w fun e w' => e = .returned (.agg #[.int .i64 c,.int .i64 0,.int .i64 0,.slice none 0 0]) ∧ Grow w w' := by
 go_enter Tryz.func65,Tryz.ntmps65
 go_wp2
 exact ret_res rfl rfl (Blk.new w 27 [.int .i64 c,.int .i64 0,.int .i64 0,.slice none 0 0]) rfl ⟨rfl,(Kept.refl _ _).alloc _⟩
theorem made16 (w : World) : (Instr.makeSlice 22 (.int .i64 16) (.int .i64 16)).run Tryz.prog w = .ok (.slice (some ⟨w.heap.size,0,none⟩) 16 16) (w.alloc (.cells (madeCells #[.int .u8 0] 16) 5)) := by
 obtain ⟨i,hi,hz,hs,hb⟩ := info_parts infoU8
 have := run_make (P := Tryz.prog) w 22 5 i _ Tryz.underlying22 hi hz .i64 .i64 16 16 (by omega) (Int.le_refl _) (by rw [hb];omega) (by omega)
 rw [hs,show (16 : Int).toNat = 16 by omega] at this
 exact this
theorem zeros_any (w : World) : Calls Tryz.prog 109 #[] w fun e w' => e = .returned (.string (strOfNums zeros)) ∧ Grow w w' := by
 have km := made16
 have hb := NBlk.made w 5 .u8 16
 have hcv := (Sl.of_blk0 (B := w.heap.size + 1) hb (n := 16) (by simp) (by omega)).str (P := Tryz.prog) 22 9 5 Tryz.underlying22 Tryz.underlying5 Tryz.underlying9 16
 have HB : Hid (Grow w (w.alloc (.cells (madeCells #[Value.int .u8 0] 16) 5))) := (Kept.refl _ _).alloc _
 clear hb
 go_enter Tryz.func109,Tryz.ntmps109
 go_wp2
 go_ret
 exact ⟨rfl,HB.out⟩
structure Cl (w : World) (s gT cT gB cB gH cH : Nat) (k b c : Nat) (a : Md) : Prop where
 s0 : w.cell? ⟨s,0,none⟩ = some (.slice (some ⟨gT,0,none⟩) a.n cT)
 s1 : w.cell? ⟨s,1,none⟩ = some (.slice (some ⟨gB,0,none⟩) a.n cB)
 s2 : w.cell? ⟨s,2,none⟩ = some (.slice (some ⟨gH,0,none⟩) a.N cH)
 sl : w.cell? ⟨gH,k,none⟩ = some (.slice (some ⟨b,0,none⟩) 6 c)
 row : OR w b 3 1 c 6 (hcell (a.H k))
theorem SM.client (h : SM w G gT cT gB cB gH cH q cp a) {k : Nat} (hk : k < a.N) : Cl (w.alloc (.cells #[.slice (some ⟨gT,0,none⟩) a.n cT,.slice (some ⟨gB,0,none⟩) a.n cB,.slice (some ⟨gH,0,none⟩) a.N cH] 50)) w.heap.size gT cT gB cB gH cH k (q k) (cp k) a := by
 have hb := Blk.new w 50 [.slice (some ⟨gT,0,none⟩) a.n cT,.slice (some ⟨gB,0,none⟩) a.n cB,.slice (some ⟨gH,0,none⟩) a.N cH]
 have hg : Grow w (w.alloc (.cells #[.slice (some ⟨gT,0,none⟩) a.n cT,.slice (some ⟨gB,0,none⟩) a.n cB,.slice (some ⟨gH,0,none⟩) a.N cH] 50)) := (Kept.refl _ _).alloc _
 exact ⟨hb.cell 0,hb.cell 1,hb.cell 2,hg.cellN (h.hb.cell (i := k) (by omega)) id,(h.rb k hk).kept hg id⟩
theorem held_any (h : SAt w G v a) (c j : Int) : Calls Tryz.prog 54 #[v,.int .i64 c,.int .i64 j] w fun e w' => e = .returned (.int .i64 (a.held c j)) ∧ Grow w w' := by
 obtain ⟨gT,cT,gB,cB,gH,cH,q,cp,rfl,hm⟩ := h.mem
 unfold sval
 have hN := h.good.N
 clear h
 by_cases hc : 0 ≤ c ∧ c < (a.N : Int)
 ·obtain ⟨k,rfl⟩ := Int.eq_ofNat_of_zero_le hc.1
  have hk : k < a.N := by omega
  have hkz : (k : Int) < (a.N : Int) := hc.2
  have HC := hid (hm.client hk)
  have HG0 : Hid (Grow w (w.alloc (.cells #[.slice (some ⟨gT,0,none⟩) a.n cT,.slice (some ⟨gB,0,none⟩) a.n cB,.slice (some ⟨gH,0,none⟩) a.N cH] 50))) := (Kept.refl _ _).alloc _
  by_cases hj : 0 ≤ j ∧ j < 6
  ·obtain ⟨i,rfl⟩ := Int.eq_ofNat_of_zero_le hj.1
   have hi : i < 6 := by omega
   have hiz : (i : Int) < 6 := hj.2
   have r1 := hcell_get HC.out.row hi
   rw [held_in hk hi]
   clear hm hc hj hi hk hN
   go_enter Tryz.func54,Tryz.ntmps54
   go_upto_region 1 with (fail)
   generalize w.alloc (.cells #[.slice (some ⟨gT,0,none⟩) a.n cT,.slice (some ⟨gB,0,none⟩) a.n cB,.slice (some ⟨gH,0,none⟩) a.N cH] 50) = w0 at HC HG0 r1 ⊢
   generalize w.heap.size = s at HC ⊢
   have s2 := HC.out.s2
   have sl := HC.out.sl
   go_wp2
   go_ret
   exact ⟨rfl,HG0.out⟩
  ·rw [held_out fun x => hj x.2]
   by_cases h0 : j < 0
   ·clear hm hc hj hk hN
    go_enter Tryz.func54,Tryz.ntmps54
    go_upto_region 1 with (fail)
    generalize w.alloc (.cells #[.slice (some ⟨gT,0,none⟩) a.n cT,.slice (some ⟨gB,0,none⟩) a.n cB,.slice (some ⟨gH,0,none⟩) a.N cH] 50) = w0 at HC HG0 ⊢
    generalize w.heap.size = s at HC ⊢
    have s2 := HC.out.s2
    have sl := HC.out.sl
    go_wp2
    go_ret
    exact ⟨rfl,HG0.out⟩
   ·have h1 : 0 ≤ j := by omega
    have h6 : 6 ≤ j := by omega
    clear hm hc hj hk hN h0
    go_enter Tryz.func54,Tryz.ntmps54
    go_upto_region 1 with (fail)
    generalize w.alloc (.cells #[.slice (some ⟨gT,0,none⟩) a.n cT,.slice (some ⟨gB,0,none⟩) a.n cB,.slice (some ⟨gH,0,none⟩) a.N cH] 50) = w0 at HC HG0 ⊢
    generalize w.heap.size = s at HC ⊢
    have s2 := HC.out.s2
    have sl := HC.out.sl
    go_wp2
    go_ret
    exact ⟨rfl,HG0.out⟩
 ·rw [held_out fun x => hc x.1]
  clear hm
  by_cases h0 : c < 0
  ·clear hc hN
   go_enter Tryz.func54,Tryz.ntmps54
   go_wp2
   go_ret
   exact ⟨rfl,(Kept.refl _ _).alloc _⟩
  ·have h1 : (a.N : Int) ≤ c := by omega
   have h2 : 0 ≤ c := by omega
   clear hc h0 hN
   go_enter Tryz.func54,Tryz.ntmps54
   go_wp2
   go_ret
   exact ⟨rfl,(Kept.refl _ _).alloc _⟩
theorem room_any (h : SAt w G v a) {k : Nat} (hk : k < a.N) : Calls Tryz.prog 112 #[v,.int .i64 (k : Int)] w fun e w' => e = .returned (.bool (!decide (a.free k = -1))) ∧ Grow w w' := by
 obtain ⟨gT,cT,gB,cB,gH,cH,q,cp,rfl,hm⟩ := h.mem
 unfold sval
 have HC := hid (hm.client hk)
 have HG0 : Hid (Grow w (w.alloc (.cells #[.slice (some ⟨gT,0,none⟩) a.n cT,.slice (some ⟨gB,0,none⟩) a.n cB,.slice (some ⟨gH,0,none⟩) a.N cH] 50))) := (Kept.refl _ _).alloc _
 have HLO := hid fun (j : Nat) (hj : j < 6) => h.good.lo hk hj
 have hkz : (k : Int) < (a.N : Int) := by omega
 clear hm h hk
 go_enter Tryz.func112,Tryz.ntmps112
 go_upto_region 1 with (fail)
 generalize w.alloc (.cells #[.slice (some ⟨gT,0,none⟩) a.n cT,.slice (some ⟨gB,0,none⟩) a.n cB,.slice (some ⟨gH,0,none⟩) a.N cH] 50) = w0 at HC HG0 ⊢
 generalize w.heap.size = s at HC ⊢
 have s2 := HC.out.s2
 have sl := HC.out.sl
 go_wp2
 go_loopg [5] 6 (fun gx i wr => ∃ j : Nat,j + gx = 6 ∧ i = .int .i64 (j : Int) ∧ w0 = wr ∧ ∀ t,t < j → a.H k t ≠ -1)
 case atStart => exact ⟨0,by omega,rfl,rfl,fun t h => absurd h (Nat.not_lt_zero t)⟩
 case round =>
  obtain ⟨j,hg,rfl,rfl,hno⟩ := hrel
  have HG := hid hg
  have HNO := hid hno
  clear hg hno
  by_cases hj : j < 6
  ·have hjz : (j : Int) < 6 := by omega
   have r1 := hcell_get HC.out.row hj
   have hlo := HLO.out j hj
   by_cases hx : a.H k j = -1
   ·have HE : Hid ((!decide (a.free k = -1)) = true) := by show (!decide (hnd (a.H k) 6 = -1)) = true;rw [hnd_at HNO.out hj hx];simp
    rw [hx] at r1
    clear hx hlo hj
    go_wp2
    go_ret
    exact ⟨by rw [HE.out];rfl,HG0.out⟩
   ·have hx0 : 0 ≤ a.H k j := by omega
    have HX := hid hx
    clear hx hlo hj
    generalize a.H k j = x at r1 hx0
    go_wp2
    go_roundg (gk - 1)
    case measure => have := HG.out;omega
    case rel => exact ⟨j + 1,by have := HG.out;omega,by go_num,rfl,fun t ht => by
     by_cases e : t = j
     ·subst e;exact HX.out
     ·exact HNO.out t (by omega)⟩
  ·have hj6 : j = 6 := by have := HG.out;omega
   subst hj6
   have HE : Hid ((!decide (a.free k = -1)) = false) := by show (!decide (hnd (a.H k) 6 = -1)) = false;rw [hnd_none HNO.out];rfl
   clear hj
   go_wp2
   go_ret
   exact ⟨by rw [HE.out];rfl,HG0.out⟩
end
end MdC
namespace RfP
open Go.ChangeShapes Go.WideShapes Go.ChangeAt Go.RowKit
open Mem Blk Cells Orow
open MdM (Md MdOp Re)
open ArM (Ar Fr)
open Dev (Dv)
open RefD (Rf POwn)
open MdC (SAt)
open ArRefC (RAt RMem)
def paint (s c : Nat) (col : Nat → Nat) (k : Nat) : Nat := if k < s then col k else c
theorem paint_old {s c k : Nat} {col : Nat → Nat} (h : k < s) : paint s c col k = col k := if_pos h
theorem paint_new {s c k : Nat} {col : Nat → Nat} (h : s ≤ k) : paint s c col k = c := if_neg (by omega)
def Own (s c : Nat) (col : Nat → Nat) (k : Nat) : Prop := (k < s ∧ col k = c) ∨ s ≤ k
theorem own_new {s c : Nat} {col : Nat → Nat} : ∀ k,s ≤ k → Own s c col k := fun _ h => .inr h
theorem own_paint {s c k : Nat} {col : Nat → Nat} (h : Own s c col k) : paint s c col k = c := by
 rcases h with ⟨h1,h2⟩ | h
 ·rw [paint_old h1];exact h2
 ·exact paint_new h
section
variable {w w' : World} {F : Nat → Prop} {col : Nat → Nat} {c i m : Nat} {r : Rf} {v : Value} {D D' : Dv} {A A' : Ar} {L L' : List Nat} {X X' : Md}
def XAt (w : World) (col : Nat → Nat) (i : Nat) (v : Value) (X : Md) : Prop := SAt w (fun k => k < w.heap.size ∧ col k = i) v X
theorem XAt.keep (h : XAt w col i v X) (hk : Kept F w w') (hF : ∀ k,k < w.heap.size → F k → col k ≠ i) (c : Nat) : XAt w' (paint w.heap.size c col) i v X :=
 (SAt.kept h (hk.mono (G := fun k => k < w.heap.size ∧ F k) fun k h1 h2 => ⟨h1,h2⟩) fun k h1 h2 => hF k h2.1 h2.2 h1.2).mono fun k h1 h2 => ⟨h1,by rw [paint_old h2.1];exact h2.2⟩
theorem XAt.same (h : XAt w col i v X) (hk : Kept F w w') (hF : ∀ k,k < w.heap.size → F k → col k ≠ i) : XAt w' col i v X :=
 (SAt.kept h (hk.mono (G := fun k => k < w.heap.size ∧ F k) fun _ h1 h2 => ⟨h1,h2⟩) fun k h1 h2 => hF k h2.1 h2.2 h1.2).mono fun _ h1 h2 => ⟨h1,h2.2⟩
theorem XAt.fresh (h : SAt w' (fun k => w.heap.size ≤ k) v X) (c : Nat) : XAt w' (paint w.heap.size c col) c v X := h.mono fun _ h1 h2 => ⟨h1,paint_new h2⟩
def DAt (w : World) (col : Nat → Nat) (r : Rf) (D : Dv) : Prop := RefD.RefAt w r D ∧ ∀ k,POwn r k → col k = 3
theorem DAt.keep (h : DAt w col r D) (hk : Kept F w w') (hF : ∀ k,k < w.heap.size → F k → col k ≠ 3) (c : Nat) : DAt w' (paint w.heap.size c col) r D :=
 ⟨h.1.kept hk fun k h1 h2 => hF k (h.1.lt k h1) h2 (h.2 k h1),fun k h1 => by rw [paint_old (h.1.lt k h1)];exact h.2 k h1⟩
theorem DAt.turn (h : DAt w col r D) (h' : RefD.RefAt w' r D') (c : Nat) : DAt w' (paint w.heap.size c col) r D' := ⟨h',fun k h1 => by rw [paint_old (h.1.lt k h1)];exact h.2 k h1⟩
def AAt (w : World) (col : Nat → Nat) (m : Nat) (A : Ar) : Prop := RAt w (fun k => k < w.heap.size ∧ col k = 4) m A
theorem rat_mono {G H : Nat → Prop} (h : RAt w G m A) (hH : ∀ k,k < w.heap.size → G k → H k) : RAt w H m A := by
 have hl := h.lt
 obtain ⟨vL,vB,B,n,S,h'⟩ := h.mem
 exact ⟨h.good,vL,vB,B,n,S,h'.hd,ArRefC.os_mono h'.fr fun k hk x => ⟨hH k hk x.1,x.2⟩,ArRefC.os_mono h'.bo fun k hk x => ⟨hH k hk x.1,x.2⟩,h'.sb,h'.id,h'.cc,fun x e => ⟨hH _ (h'.lt x e) (h'.off x e).1,(h'.off x e).2⟩,hH _ hl.1 hl.2,h'.lt⟩
theorem AAt.keep (h : AAt w col m A) (hk : Kept F w w') (hF : ∀ k,k < w.heap.size → F k → col k ≠ 4) (c : Nat) : AAt w' (paint w.heap.size c col) m A :=
 rat_mono (RAt.kept h (hk.mono (G := fun k => k < w.heap.size ∧ F k) fun k h1 h2 => ⟨h1,h2⟩) fun k h1 h2 => hF k h2.1 h2.2 h1.2) fun k h1 h2 => ⟨h1,by rw [paint_old h2.1];exact h2.2⟩
theorem AAt.use (h : AAt w col m A) : RAt w (Own w.heap.size 4 col) m A := rat_mono h fun _ _ h => .inl h
theorem AAt.turn (h : RAt w' (Own w.heap.size 4 col) m A') : AAt w' (paint w.heap.size 4 col) m A' := rat_mono h fun _ h1 h2 => ⟨h1,own_paint h2⟩
def LAt (w : World) (col : Nat → Nat) (m : Nat) (L : List Nat) : Prop := ListR.RefAt w m 32 (fun k => k < w.heap.size ∧ col k ≠ 5) L
theorem LAt.keep (h : LAt w col m L) (hk : Kept F w w') (hF : ∀ k,k < w.heap.size → F k → col k ≠ 5) (c : Nat) : LAt w' (paint w.heap.size c col) m L := by
 have hs := hk.size
 have h1 : ListR.RefAt w m 32 (fun k => k < w'.heap.size ∧ paint w.heap.size c col k ≠ 5) L := ListR.RefAt.widen h fun k h1 h2 => ⟨h1,by have := h2.2;rw [paint_old h1] at this;exact this⟩
 exact h1.kept (hk.mono (G := fun k => k < w.heap.size ∧ F k) fun k h1 h2 => ⟨h1,h2⟩) fun k h2 => ⟨by have := h2.1;omega,by rw [paint_old h2.1];exact hF k h2.1 h2.2⟩
theorem LAt.low : ∀ k,(k < w.heap.size ∧ col k ≠ 5) → k < w.heap.size := fun _ h => h.1
theorem LAt.turn (h : ListR.RefAt w' m 32 (fun k => k < w.heap.size ∧ col k ≠ 5) L') : LAt w' (paint w.heap.size 5 col) m L' := ListR.RefAt.widen h fun k h1 h2 => by
 by_cases e : k < w.heap.size
 ·exact ⟨e,by have := h2.2;rw [paint_old e] at this;exact this⟩
 ·exact absurd (paint_new (by omega)) h2.2
theorem LAt.at_ (h : LAt w col m L) : m < w.heap.size ∧ col m = 5 := by
 have h1 := ListR.RefAt.lt h
 refine ⟨h1,?_⟩
 by_cases e : col m = 5
 ·exact e
 ·exact absurd ⟨h1,e⟩ h.fm
theorem AAt.at_ (h : AAt w col m A) : m < w.heap.size ∧ col m = 4 := RAt.lt h |>.2
structure Three (w : World) (col : Nat → Nat) (r : Rf) (a l : Nat) (D : Dv) (A : Ar) (L : List Nat) : Prop where
 d : DAt w col r D
 a : AAt w col a A
 l : LAt w col l L
variable {a l : Nat}
theorem Three.keep (h : Three w col r a l D A L) (hk : Kept F w w') (hF : ∀ k,k < w.heap.size → F k → col k ≠ 3 ∧ col k ≠ 4 ∧ col k ≠ 5) (c : Nat) : Three w' (paint w.heap.size c col) r a l D A L :=
 ⟨h.d.keep hk (fun k h1 h2 => (hF k h1 h2).1) c,h.a.keep hk (fun k h1 h2 => (hF k h1 h2).2.1) c,h.l.keep hk (fun k h1 h2 => (hF k h1 h2).2.2) c⟩
theorem Three.setD (h : Three w col r a l D A L) (h' : RefD.RefAt w' r D') (hk : Kept (POwn r) w w') (c : Nat) : Three w' (paint w.heap.size c col) r a l D' A L :=
 ⟨h.d.turn h' c,h.a.keep hk (fun k h1 h2 => by rw [h.d.2 k h2];decide) c,h.l.keep hk (fun k h1 h2 => by rw [h.d.2 k h2];decide) c⟩
theorem own_old {s c k : Nat} {col : Nat → Nat} (h1 : k < s) (h : Own s c col k) : col k = c := by
 rcases h with ⟨_,h⟩ | h
 ·exact h
 ·omega
theorem Three.setA (h : Three w col r a l D A L) (h' : RAt w' (Own w.heap.size 4 col) a A') (hk : Kept (Own w.heap.size 4 col) w w') : Three w' (paint w.heap.size 4 col) r a l D A' L :=
 ⟨h.d.keep hk (fun k h1 h2 => by rw [own_old h1 h2];decide) 4,AAt.turn h',h.l.keep hk (fun k h1 h2 => by rw [own_old h1 h2];decide) 4⟩
theorem Three.setL (h : Three w col r a l D A L) (h' : ListR.RefAt w' l 32 (fun k => k < w.heap.size ∧ col k ≠ 5) L') (hk : Kept (· = l) w w') : Three w' (paint w.heap.size 5 col) r a l D A L' :=
 ⟨h.d.keep hk (fun k _ h2 => by rw [h2,h.l.at_.2];decide) 5,h.a.keep hk (fun k _ h2 => by rw [h2,h.l.at_.2];decide) 5,LAt.turn h'⟩
end
end RfP
namespace HdC
open Go.ChangeShapes Go.WideShapes Go.ChangeAt Go.RowKit
open Mem Blk Cells Orow HdM Stages
def hcell (f : Nat → Int) (j : Nat) : Value := .int .i64 (f j)
def scell (q cp : Nat → Nat) (i : Nat) : Value := .slice (some ⟨q i,0,none⟩) 6 (cp i)
structure Gr (w : World) (G : Nat → Prop) (v : Value) (n : Nat) (q cp : Nat → Nat) (H : Nat → Nat → Int) : Prop where
 out : OS w G v 33 1 n (scell q cp)
 row : ∀ i,i < n → OR w (q i) 3 1 (cp i) 6 (hcell (H i))
 inG : ∀ i,i < n → G (q i)
 off : ∀ i,i < n → v.ownBlock ≠ some (q i)
 ne : ∀ i j,i < n → j < n → q i = q j → i = j
structure HAt (w : World) (G : Nat → Prop) (d : Nat) (a : Hs) : Prop where
 good : HdM.Good a
 mem : ∃ v q cp,Row w d 1 (fun _ => v) ∧ Gr w G v a.n q cp a.H ∧ G d ∧ v.ownBlock ≠ some d ∧ ∀ i,i < a.n → q i ≠ d
section
variable {w w' : World} {G F X : Nat → Prop} {v : Value} {n d : Nat} {q cp : Nat → Nat} {H : Nat → Nat → Int} {a : Hs}
theorem os_mono {t : TypeId} {s : Nat} {f : Nat → Value} (h : OS w G v t s n f) (hX : ∀ k,k < w.heap.size → G k → X k) : OS w X v t s n f := by
 rcases h with h | ⟨g,cap,e,ho,hg⟩
 ·exact .inl h
 ·exact .inr ⟨g,cap,e,ho,hX _ ho.lt hg⟩
theorem os_in {t : TypeId} {s : Nat} {f : Nat → Value} (h : OS w G v t s n f) {k : Nat} (hk : v.ownBlock = some k) : G k ∧ k < w.heap.size := h.own.2 k hk
theorem Gr.kept (h : Gr w G v n q cp H) (hk : Kept F w w') (hF : ∀ k,G k → ¬ F k) : Gr w' G v n q cp H :=
 ⟨h.out.kept hk hF,fun i hi => (h.row i hi).kept hk (hF _ (h.inG i hi)),h.inG,h.off,h.ne⟩
theorem Gr.mono (h : Gr w G v n q cp H) (hX : ∀ k,k < w.heap.size → G k → X k) : Gr w X v n q cp H :=
 ⟨os_mono h.out hX,h.row,fun i hi => hX _ (h.row i hi).lt (h.inG i hi),h.off,h.ne⟩
theorem Gr.get (h : Gr w G v n q cp H) {i : Nat} (hi : i < n) : ∃ g cap,v = .slice (some ⟨g,0,none⟩) n cap ∧ w.cell? ⟨g,i,none⟩ = some (.slice (some ⟨q i,0,none⟩) 6 (cp i)) ∧ OR w (q i) 3 1 (cp i) 6 (hcell (H i)) := by
 obtain ⟨g,cap,rfl,ho,_⟩ := h.out.form (by omega)
 exact ⟨g,cap,rfl,ho.cell (by omega),h.row i hi⟩
theorem hcell_get {b c : Nat} {f : Nat → Int} (h : OR w b 3 1 c 6 (hcell f)) {j : Nat} (hj : j < 6) : w.cell? ⟨b,j,none⟩ = some (.int .i64 (f j)) := h.cell (by omega)
theorem Gr.put (h : Gr w G v a.n q cp a.H) {c : Nat} (j : Nat) (p : Int) : Gr (w.setCell ⟨q c,j,none⟩ (.int .i64 p)) G v (a.put c j p).n q cp (a.put c j p).H ∨ ¬ c < a.n := by
 by_cases hc : c < a.n
 ·left
  refine ⟨?_,fun i hi => ?_,h.inG,h.off,h.ne⟩
  ·rcases h.out with x | ⟨g,cap,e,ho,hg⟩
   ·exact .inl x
   ·refine .inr ⟨g,cap,e,ho.other (p := ⟨q c,j,none⟩) (fun e2 => h.off c hc ?_) _,hg⟩
    rw [e,e2];rfl
  ·have hi : i < a.n := hi
   by_cases e : i = c
   ·subst e
    refine ((h.row i hi).set j _).congr fun y hy => ?_
    show (if y = j then Value.int .i64 p else .int .i64 (a.H i y)) = .int .i64 (if i = i ∧ y = j then p else a.H i y)
    by_cases e2 : y = j
    ·rw [if_pos e2,if_pos ⟨rfl,e2⟩]
    ·rw [if_neg e2,if_neg fun x => e2 x.2]
   ·refine ((h.row i hi).other (p := ⟨q c,j,none⟩) (fun e2 => e (h.ne i c hi hc e2)) _).congr fun y hy => ?_
    show Value.int .i64 (a.H i y) = .int .i64 (if i = c ∧ y = j then p else a.H i y)
    rw [if_neg fun x => e x.1]
 ·exact .inr hc
theorem HAt.kept (h : HAt w G d a) (hk : Kept F w w') (hF : ∀ k,G k → ¬ F k) : HAt w' G d a := by
 obtain ⟨v,q,cp,h0,h1,h2,h3,h4⟩ := h.mem
 exact ⟨h.good,v,q,cp,h0.kept hk (hF _ h2),h1.kept hk hF,h2,h3,h4⟩
theorem HAt.mono (h : HAt w G d a) (hX : ∀ k,k < w.heap.size → G k → X k) : HAt w X d a := by
 obtain ⟨v,q,cp,h0,h1,h2,h3,h4⟩ := h.mem
 exact ⟨h.good,v,q,cp,h0,h1.mono hX,hX _ h0.lt h2,h3,h4⟩
structure Own (w : World) (G : Nat → Prop) (d : Nat) (a : Hs) (k g cap b c : Nat) : Prop where
 hd : w.cell? ⟨d,0,none⟩ = some (.slice (some ⟨g,0,none⟩) a.n cap)
 sl : w.cell? ⟨g,k,none⟩ = some (.slice (some ⟨b,0,none⟩) 6 c)
 row : OR w b 3 1 c 6 (hcell (a.H k))
 put : ∀ j p,-1 ≤ p → HAt (w.setCell ⟨b,j,none⟩ (.int .i64 p)) G d (a.put k j p)
 inG : G b
theorem HAt.own (h : HAt w G d a) {k : Nat} (hk : k < a.n) : ∃ g cap b c,Own w G d a k g cap b c := by
 obtain ⟨v,q,cp,h0,h1,h2,h3,h4⟩ := h.mem
 obtain ⟨g,cap,rfl,hs,hr⟩ := h1.get hk
 refine ⟨g,cap,q k,cp k,h0.cell (i := 0) (by omega),hs,hr,fun j p hp => ⟨h.good.put k j hp,_,q,cp,h0.other (p := ⟨q k,j,none⟩) (fun e => h4 k hk e.symm) _,?_,h2,h3,h4⟩,h1.inG k hk⟩
 rcases h1.put (c := k) j p with h | h
 ·exact h
 ·exact absurd hk h
theorem HAt.head (h : HAt w G d a) : ∃ A cap,w.cell? ⟨d,0,none⟩ = some (.slice A a.n cap) := by
 obtain ⟨v,q,cp,h0,h1,_⟩ := h.mem
 have c0 := h0.cell (i := 0) (by omega)
 rcases h1.out with ⟨rfl,e⟩ | ⟨g,cap,rfl,_⟩
 ·exact ⟨none,0,by rw [c0,e]⟩
 ·exact ⟨_,_,c0⟩
def HPost (G : Nat → Prop) (d : Nat) (w : World) (r : Value) (a' : Hs) (e : Ending) (w' : World) : Prop := e = .returned r ∧ HAt w' G d a' ∧ Kept G w w'
theorem least_nil (w : World) (A : Option Addr) (c : Nat) : Calls Tryz.prog 143 #[.slice A 0 c] w fun e w' => e = .returned (.int .i64 (-1)) ∧ w = w' := by
 go_enter Tryz.func143,Tryz.ntmps143
 go_wp2
 go_step3
 go_wp2
 go_step3
 go_wp2
 go_loopg [3,8] 0 (fun _ x i wr => i = .int .i64 0 ∧ x = .int .i64 (-1) ∧ wr = w)
 case atStart => exact ⟨rfl,rfl,rfl⟩
 case round =>
  obtain ⟨rfl,rfl,rfl⟩ := hrel
  go_wp2
  try rw [Exit.noGoto_ret]
  go_ret
  exact ⟨rfl,rfl⟩
theorem least_six {w : World} {b cb c : Nat} {f : Nat → Int} (h : OR w b 3 1 cb 6 (hcell f)) : Calls Tryz.prog 143 #[.slice (some ⟨b,0,none⟩) 6 c] w fun e w' => e = .returned (.int .i64 (hnd f 6)) ∧ w = w' := by
 have HR := hid h
 clear h
 go_enter Tryz.func143,Tryz.ntmps143
 go_wp2
 go_step3
 go_wp2
 go_step3
 go_wp2
 go_loopg [3,8] 6 (fun gx x i wr => ∃ j : Nat,j + gx = 6 ∧ i = .int .i64 (j : Int) ∧ x = .int .i64 (-1) ∧ wr = w ∧ ∀ k,k < j → f k ≠ -1)
 case atStart => exact ⟨0,by omega,rfl,rfl,rfl,fun k h => absurd h (Nat.not_lt_zero k)⟩
 case round =>
  obtain ⟨j,hg,rfl,rfl,rfl,hno⟩ := hrel
  have HG := hid hg
  have HNO := hid hno
  clear hg hno
  by_cases hj : j < 6
  ·have hjz : (j : Int) < 6 := by omega
   have r1 := hcell_get HR.out hj
   by_cases hx : f j = -1
   ·have hd := hnd_at HNO.out hj hx
    have HD := hid hd
    rw [hx] at r1
    clear hd hx
    go_wp2
    try rw [Exit.noGoto_ret]
    go_ret
    exact ⟨by rw [HD.out];rfl,rfl⟩
   ·have hx' : (f j == -1) = false := by simpa using hx
    have HX := hid hx
    clear hx
    go_wp2
    go_roundg (gk - 1)
    case measure => have := HG.out;omega
    case rel => exact ⟨j + 1,by have := HG.out;omega,by go_num,rfl,rfl,fun k hk => by
     by_cases e : k = j
     ·subst e;exact HX.out
     ·exact HNO.out k (by omega)⟩
  ·have hd := hnd_none (m := 6) fun k hk => HNO.out k (by omega)
   have hj6 : j = 6 := by have := HG.out;omega
   subst hj6
   have HD := hid hd
   clear hd hj
   go_wp2
   try rw [Exit.noGoto_ret]
   go_ret
   exact ⟨by rw [HD.out];rfl,rfl⟩
theorem of_bad (h : HAt w G d a) (c : Int) (hc : ¬ (0 ≤ c ∧ c < (a.n : Int))) : Calls Tryz.prog 144 #[.pointer (some ⟨d,0,none⟩),.int .i64 c] w fun e w' => e = .returned (.slice none 0 0) ∧ w = w' := by
 obtain ⟨A,cap,c0⟩ := h.head
 clear h
 by_cases h0 : c < 0
 ·clear hc
  go_enter Tryz.func144,Tryz.ntmps144
  go_wp2
  go_ret
  exact ⟨rfl,rfl⟩
 ·have h1 : (a.n : Int) ≤ c := by omega
  have h2 : 0 ≤ c := by omega
  clear hc h0
  go_enter Tryz.func144,Tryz.ntmps144
  go_wp2
  go_ret
  exact ⟨rfl,rfl⟩
theorem of_good {k g cap b c : Nat} (h : Own w G d a k g cap b c) (hk : k < a.n) : Calls Tryz.prog 144 #[.pointer (some ⟨d,0,none⟩),.int .i64 (k : Int)] w fun e w' => e = .returned (.slice (some ⟨b,0,none⟩) 6 c) ∧ w = w' := by
 have c0 := h.hd
 have c1 := h.sl
 have hkz : (k : Int) < (a.n : Int) := by omega
 clear h
 go_enter Tryz.func144,Tryz.ntmps144
 go_wp2
 go_ret
 exact ⟨rfl,rfl⟩
end
end HdC
namespace RgP
open Go.ChangeShapes Go.WideShapes Go.ChangeAt Go.RowKit
open Mem Blk RfP
open ArM (Ar Fr)
open Dev (Dv DevAt)
open ArC (ArAt)
open Rowed (ListAt)
open HdM (Hs)
open HdC (HAt)
section
variable {w w' : World} {F : Nat → Prop} {col : Nat → Nat} {c d D W a b B h n : Nat} {S S' : Dv} {A A' : Ar} {L L' : List Nat} {H H' : Hs}
def Bar (s : Nat) (col : Nat → Nat) (d D W : Nat) (k : Nat) : Prop := (k < s ∧ col k ≠ 7) ∨ Dev.Own d D W k
structure PD (w : World) (col : Nat → Nat) (d D W : Nat) (S : Dv) : Prop where
 at_ : DevAt w d D W (Bar w.heap.size col d D W) S
 own : ∀ k,Dev.Own d D W k → k < w.heap.size ∧ col k = 7
theorem Bar.low (h : PD w col d D W S) : ∀ k,Bar w.heap.size col d D W k → k < w.heap.size := fun k x => x.elim (fun x => x.1) fun x => (h.own k x).1
theorem PD.keep (h : PD w col d D W S) (hk : Kept F w w') (hF : ∀ k,k < w.heap.size → F k → col k ≠ 7) (c : Nat) : PD w' (paint w.heap.size c col) d D W S := by
 have hs := hk.size
 refine ⟨?_,fun k x => ⟨Nat.lt_of_lt_of_le (h.own k x).1 hs,by rw [paint_old (h.own k x).1];exact (h.own k x).2⟩⟩
 have h1 : DevAt w d D W (Bar w'.heap.size (paint w.heap.size c col) d D W) S := h.at_.turn (fun k hk x => x.elim (fun x => .inl ⟨hk,by have := x.2;rw [paint_old hk] at this;exact this⟩) .inr) fun k x => .inr x
 exact h1.kept (hk.mono (G := fun k => k < w.heap.size ∧ F k) fun _ h1 h2 => ⟨h1,h2⟩) (fun k x => .inl ⟨by have := x.1;omega,by rw [paint_old x.1];exact hF k x.1 x.2⟩) fun k x y => hF k y.1 y.2 (h.own k x).2
theorem PD.turn (h : PD w col d D W S) (h' : DevAt w' d D W (Bar w.heap.size col d D W) S') (hs : w.heap.size ≤ w'.heap.size) : PD w' (paint w.heap.size 7 col) d D W S' := by
 refine ⟨h'.turn (fun k _ x => x.elim (fun x => ?_) .inr) fun k x => .inr x,fun k x => ⟨Nat.lt_of_lt_of_le (h.own k x).1 hs,by rw [paint_old (h.own k x).1];exact (h.own k x).2⟩⟩
 by_cases e : k < w.heap.size
 ·exact .inl ⟨e,by have := x.2;rw [paint_old e] at this;exact this⟩
 ·exact absurd (paint_new (by omega)) x.2
theorem PD.read (h : PD w col d D W S) (h' : DevAt w' d D W (fun k => Bar w.heap.size col d D W k ∨ w.heap.size ≤ k) S') (hs : w.heap.size ≤ w'.heap.size) (c : Nat) : PD w' (paint w.heap.size c col) d D W S' := by
 refine ⟨h'.turn (fun k _ x => x.elim (fun x => ?_) fun x => .inl (.inr x)) fun k x => .inr x,fun k x => ⟨Nat.lt_of_lt_of_le (h.own k x).1 hs,by rw [paint_old (h.own k x).1];exact (h.own k x).2⟩⟩
 by_cases e : k < w.heap.size
 ·exact .inl (.inl ⟨e,by have := x.2;rw [paint_old e] at this;exact this⟩)
 ·exact .inr (by omega)
def PA (w : World) (col : Nat → Nat) (a : Nat) (A : Ar) : Prop := ArAt w (fun k => k < w.heap.size ∧ col k = 8) a A
theorem PA.keep (h : PA w col a A) (hk : Kept F w w') (hF : ∀ k,k < w.heap.size → F k → col k ≠ 8) (c : Nat) : PA w' (paint w.heap.size c col) a A :=
 (ArAt.kept h (hk.mono (G := fun k => k < w.heap.size ∧ F k) fun _ h1 h2 => ⟨h1,h2⟩) fun k h1 h2 => hF k h2.1 h2.2 h1.2).mono fun k h1 h2 => ⟨h1,by rw [paint_old h2.1];exact h2.2⟩
theorem PA.turn (h : ArAt w' (fun k => k < w.heap.size ∧ col k = 8) a A') (c : Nat) : PA w' (paint w.heap.size c col) a A' := h.mono fun _ h1 h2 => ⟨h1,by rw [paint_old h2.1];exact h2.2⟩
structure PL (w : World) (col : Nat → Nat) (b B n : Nat) (L : List Nat) : Prop where
 at_ : ListAt w b B n L
 own : ∀ k,Rowed.Own b B k → k < w.heap.size ∧ col k = 9
theorem PL.keep (h : PL w col b B n L) (hk : Kept F w w') (hF : ∀ k,k < w.heap.size → F k → col k ≠ 9) (c : Nat) : PL w' (paint w.heap.size c col) b B n L :=
 ⟨h.at_.kept (hk.mono (G := fun k => k < w.heap.size ∧ F k) fun _ h1 h2 => ⟨h1,h2⟩) fun k x y => hF k x.1 x.2 (h.own k y).2,fun k x => ⟨Nat.lt_of_lt_of_le (h.own k x).1 hk.size,by rw [paint_old (h.own k x).1];exact (h.own k x).2⟩⟩
theorem PL.turn (h : PL w col b B n L) (h' : ListAt w' b B n L') (hs : w.heap.size ≤ w'.heap.size) (c : Nat) : PL w' (paint w.heap.size c col) b B n L' :=
 ⟨h',fun k x => ⟨Nat.lt_of_lt_of_le (h.own k x).1 hs,by rw [paint_old (h.own k x).1];exact (h.own k x).2⟩⟩
def PH (w : World) (col : Nat → Nat) (h : Nat) (H : Hs) : Prop := HAt w (fun k => k < w.heap.size ∧ col k = 10) h H
theorem PH.keep (x : PH w col h H) (hk : Kept F w w') (hF : ∀ k,k < w.heap.size → F k → col k ≠ 10) (c : Nat) : PH w' (paint w.heap.size c col) h H :=
 (HAt.kept x (hk.mono (G := fun k => k < w.heap.size ∧ F k) fun _ h1 h2 => ⟨h1,h2⟩) fun k h1 h2 => hF k h2.1 h2.2 h1.2).mono fun k h1 h2 => ⟨h1,by rw [paint_old h2.1];exact h2.2⟩
theorem PH.turn (x : HAt w' (fun k => k < w.heap.size ∧ col k = 10) h H') (c : Nat) : PH w' (paint w.heap.size c col) h H' := x.mono fun _ h1 h2 => ⟨h1,by rw [paint_old h2.1];exact h2.2⟩
structure Four (w : World) (col : Nat → Nat) (d D W a b B n h : Nat) (S : Dv) (A : Ar) (L : List Nat) (H : Hs) : Prop where
 d : PD w col d D W S
 a : PA w col a A
 l : PL w col b B n L
 h : PH w col h H
theorem Four.keep (x : Four w col d D W a b B n h S A L H) (hk : Kept F w w') (hF : ∀ k,k < w.heap.size → F k → col k < 7 ∨ 10 < col k) (c : Nat) : Four w' (paint w.heap.size c col) d D W a b B n h S A L H :=
 ⟨x.d.keep hk (fun k h1 h2 => by have := hF k h1 h2;omega) c,x.a.keep hk (fun k h1 h2 => by have := hF k h1 h2;omega) c,x.l.keep hk (fun k h1 h2 => by have := hF k h1 h2;omega) c,x.h.keep hk (fun k h1 h2 => by have := hF k h1 h2;omega) c⟩
theorem Four.setD (x : Four w col d D W a b B n h S A L H) (h' : DevAt w' d D W (Bar w.heap.size col d D W) S') (hk : Kept (Dev.Own d D W) w w') : Four w' (paint w.heap.size 7 col) d D W a b B n h S' A L H :=
 ⟨x.d.turn h' hk.size,x.a.keep hk (fun k _ h2 => by rw [(x.d.own k h2).2];decide) 7,x.l.keep hk (fun k _ h2 => by rw [(x.d.own k h2).2];decide) 7,x.h.keep hk (fun k _ h2 => by rw [(x.d.own k h2).2];decide) 7⟩
theorem Four.readD (x : Four w col d D W a b B n h S A L H) (h' : DevAt w' d D W (fun k => Bar w.heap.size col d D W k ∨ w.heap.size ≤ k) S') (hk : Kept (Dev.Own d D W) w w') (c : Nat) : Four w' (paint w.heap.size c col) d D W a b B n h S' A L H :=
 ⟨x.d.read h' hk.size c,x.a.keep hk (fun k _ h2 => by rw [(x.d.own k h2).2];decide) c,x.l.keep hk (fun k _ h2 => by rw [(x.d.own k h2).2];decide) c,x.h.keep hk (fun k _ h2 => by rw [(x.d.own k h2).2];decide) c⟩
theorem Four.setA (x : Four w col d D W a b B n h S A L H) (h' : ArAt w' (fun k => k < w.heap.size ∧ col k = 8) a A') (hk : Kept (fun k => k < w.heap.size ∧ col k = 8) w w') (c : Nat) : Four w' (paint w.heap.size c col) d D W a b B n h S A' L H :=
 ⟨x.d.keep hk (fun k _ h2 => by rw [h2.2];decide) c,PA.turn h' c,x.l.keep hk (fun k _ h2 => by rw [h2.2];decide) c,x.h.keep hk (fun k _ h2 => by rw [h2.2];decide) c⟩
theorem Four.setL (x : Four w col d D W a b B n h S A L H) (h' : ListAt w' b B n L') (hk : Kept (Rowed.Own b B) w w') (c : Nat) : Four w' (paint w.heap.size c col) d D W a b B n h S A L' H :=
 ⟨x.d.keep hk (fun k _ h2 => by rw [(x.l.own k h2).2];decide) c,x.a.keep hk (fun k _ h2 => by rw [(x.l.own k h2).2];decide) c,x.l.turn h' hk.size c,x.h.keep hk (fun k _ h2 => by rw [(x.l.own k h2).2];decide) c⟩
theorem Four.setH (x : Four w col d D W a b B n h S A L H) (h' : HAt w' (fun k => k < w.heap.size ∧ col k = 10) h H') (hk : Kept (fun k => k < w.heap.size ∧ col k = 10) w w') (c : Nat) : Four w' (paint w.heap.size c col) d D W a b B n h S A L H' :=
 ⟨x.d.keep hk (fun k _ h2 => by rw [h2.2];decide) c,x.a.keep hk (fun k _ h2 => by rw [h2.2];decide) c,x.l.keep hk (fun k _ h2 => by rw [h2.2];decide) c,PH.turn h' c⟩
end
end RgP
namespace RgS
open Go.ChangeShapes Go.WideShapes Go.ChangeAt Go.RowKit
open Mem Blk Cells RfP RgP
open ArM (Ar Fr)
open Dev (Dv DevAt)
open ArC (ArAt)
open Rowed (ListAt)
open HdM (Hs)
open HdC (HAt)
structure Nm where
 r : Nat
 d : Nat
 D : Nat
 W : Nat
 a : Nat
 b : Nat
 B : Nat
 h : Nat
 t : Nat
 n : Nat
 N : Nat
 K : Nat
def rcell (ν : Nm) (j : Nat) : Value :=
 if j = 0 then .pointer (some ⟨ν.d,0,none⟩) else if j = 1 then .pointer (some ⟨ν.a,0,none⟩) else if j = 2 then .pointer (some ⟨ν.h,0,none⟩)
 else if j = 3 then .pointer (some ⟨ν.b,0,none⟩) else if j = 4 then .slice (some ⟨ν.t,0,none⟩) ν.n ν.n else .int .i64 (ν.N : Int)
def tcell (T : Nat → Bool) (j : Nat) : Value := .bool (T j)
structure MAt (w : World) (col : Nat → Nat) (ν : Nm) (S : Dv) (A : Ar) (L : List Nat) (H : Hs) (T : Nat → Bool) : Prop where
 own : Row w ν.r 6 (rcell ν)
 th : Row w ν.t ν.n (tcell T)
 four : Four w col ν.d ν.D ν.W ν.a ν.b ν.B ν.K ν.h S A L H
 cr : col ν.r = 6
 ct : col ν.t = 11
def Mine (w : World) (col : Nat → Nat) (k : Nat) : Prop := k < w.heap.size ∧ 6 ≤ col k ∧ col k ≤ 11
structure Went (w : World) (col : Nat → Nat) (w' : World) (col' : Nat → Nat) : Prop where
 old : ∀ k,k < w.heap.size → col' k = col k
 kept : Kept (Mine w col) w w'
theorem Went.refl (w : World) (col : Nat → Nat) : Went w col w col := ⟨fun _ _ => rfl,Kept.refl _ _⟩
theorem Went.trans {a b c : World} {x y z : Nat → Nat} (h : Went a x b y) (k : Went b y c z) : Went a x c z :=
 ⟨fun i hi => (k.old i (Nat.lt_of_lt_of_le hi h.kept.size)).trans (h.old i hi),h.kept.then k.kept fun i hi m => ⟨hi,by have := m.2;rw [h.old i hi] at this;exact this⟩⟩
def Post (ν : Nm) (w : World) (col : Nat → Nat) (v : Value) (S : Dv) (A : Ar) (L : List Nat) (H : Hs) (T : Nat → Bool) (e : Ending) (w' : World) : Prop :=
 e = .returned v ∧ ∃ col',Went w col w' col' ∧ MAt w' col' ν S A L H T
section
variable {w w' : World} {F : Nat → Prop} {col col' : Nat → Nat} {c s d D W a b B h n : Nat} {ν : Nm} {S S' : Dv} {A A' : Ar} {L L' : List Nat} {H H' : Hs} {T : Nat → Bool}
theorem PD.recol (x : PD w (paint s 0 col) d D W S) (hc : ∀ k,k < s → col' k = col k) : PD w col' d D W S := by
 have hp : ∀ k,paint s 0 col k = 7 → k < s ∧ col' k = 7 := fun k e => by
  by_cases hk : k < s
  ·rw [paint_old hk] at e;exact ⟨hk,(hc k hk).trans e⟩
  ·rw [paint_new (by omega)] at e;omega
 refine ⟨x.at_.turn (fun k _ y => y.elim (fun y => .inl ⟨y.1,fun e => y.2 (hp k e).2⟩) .inr) fun k y => .inr y,fun k y => ⟨(x.own k y).1,(hp k (x.own k y).2).2⟩⟩
theorem paint_pos {k i : Nat} (hi : i ≠ 0) (e : paint s 0 col k = i) (hc : ∀ k,k < s → col' k = col k) : col' k = i := by
 by_cases hk : k < s
 ·rw [paint_old hk] at e;exact (hc k hk).trans e
 ·rw [paint_new (by omega)] at e;omega
theorem Four.recol (x : Four w (paint s 0 col) d D W a b B n h S A L H) (hc : ∀ k,k < s → col' k = col k) : Four w col' d D W a b B n h S A L H :=
 ⟨PD.recol x.d hc,x.a.mono fun _ h1 h2 => ⟨h1,paint_pos (by decide) h2.2 hc⟩,⟨x.l.at_,fun k y => ⟨(x.l.own k y).1,paint_pos (by decide) (x.l.own k y).2 hc⟩⟩,x.h.mono fun _ h1 h2 => ⟨h1,paint_pos (by decide) h2.2 hc⟩⟩
theorem MAt.c0 (x : MAt w col ν S A L H T) : w.cell? ⟨ν.r,0,none⟩ = some (.pointer (some ⟨ν.d,0,none⟩)) := x.own.cell (by omega)
theorem MAt.c1 (x : MAt w col ν S A L H T) : w.cell? ⟨ν.r,1,none⟩ = some (.pointer (some ⟨ν.a,0,none⟩)) := x.own.cell (by omega)
theorem MAt.c2 (x : MAt w col ν S A L H T) : w.cell? ⟨ν.r,2,none⟩ = some (.pointer (some ⟨ν.h,0,none⟩)) := x.own.cell (by omega)
theorem MAt.c3 (x : MAt w col ν S A L H T) : w.cell? ⟨ν.r,3,none⟩ = some (.pointer (some ⟨ν.b,0,none⟩)) := x.own.cell (by omega)
theorem MAt.c4 (x : MAt w col ν S A L H T) : w.cell? ⟨ν.r,4,none⟩ = some (.slice (some ⟨ν.t,0,none⟩) ν.n ν.n) := x.own.cell (by omega)
theorem MAt.c5 (x : MAt w col ν S A L H T) : w.cell? ⟨ν.r,5,none⟩ = some (.int .i64 (ν.N : Int)) := x.own.cell (by omega)
theorem MAt.dev (x : MAt w col ν S A L H T) : DevAt w ν.d ν.D ν.W (Bar w.heap.size col ν.d ν.D ν.W) S := x.four.d.at_
theorem MAt.arena (x : MAt w col ν S A L H T) : ArAt w (fun k => k < w.heap.size ∧ col k = 8) ν.a A := x.four.a
theorem MAt.order (x : MAt w col ν S A L H T) : ListAt w ν.b ν.B ν.K L := x.four.l.at_
theorem MAt.hand (x : MAt w col ν S A L H T) : HAt w (fun k => k < w.heap.size ∧ col k = 10) ν.h H := x.four.h
theorem MAt.keep (x : MAt w col ν S A L H T) (hk : Kept F w w') (hF : ∀ k,k < w.heap.size → F k → col k < 6 ∨ 11 < col k) (hc : ∀ k,k < w.heap.size → col' k = col k) : MAt w' col' ν S A L H T :=
 ⟨x.own.kept hk fun e => by have := hF _ x.own.lt e;rw [x.cr] at this;omega,x.th.kept hk fun e => by have := hF _ x.th.lt e;rw [x.ct] at this;omega,
  Four.recol (x.four.keep hk (fun k h1 h2 => by have := hF k h1 h2;omega) 0) hc,(hc _ x.own.lt).trans x.cr,(hc _ x.th.lt).trans x.ct⟩
theorem Went.grow (hk : Grow w w') : Went w col w' (paint w.heap.size 0 col) := ⟨fun _ h => paint_old h,Grow.kept hk⟩
theorem MAt.grow (x : MAt w col ν S A L H T) (hk : Grow w w') : MAt w' (paint w.heap.size 0 col) ν S A L H T := x.keep hk (fun _ _ f => f.elim) fun _ h => paint_old h
theorem MAt.drew (x : MAt w col ν S A L H T) : MAt w.drew col ν S A L H T := x.keep (Kept.drew' (F := fun _ => False) w) (fun _ _ f => f.elim) fun _ _ => rfl
theorem MAt.grow' (x : MAt w col ν S A L H T) (hk : Grow w w') : ∃ col',Went w col w' col' ∧ MAt w' col' ν S A L H T := ⟨_,Went.grow hk,x.grow hk⟩
theorem Went.drew (w : World) (col : Nat → Nat) : Went w col w.drew col := ⟨fun _ _ => rfl,Kept.drew' w⟩
theorem MAt.rest (x : MAt w col ν S A L H T) (hk : Kept F w w') (hF : ∀ k,k < w.heap.size → F k → col k ≠ 6 ∧ col k ≠ 11) (c : Nat) (hf : Four w' (paint w.heap.size c col) ν.d ν.D ν.W ν.a ν.b ν.B ν.K ν.h S' A' L' H') : MAt w' (paint w.heap.size c col) ν S' A' L' H' T :=
 ⟨x.own.kept hk fun e => (hF _ x.own.lt e).1 x.cr,x.th.kept hk fun e => (hF _ x.th.lt e).2 x.ct,hf,(paint_old x.own.lt).trans x.cr,(paint_old x.th.lt).trans x.ct⟩
theorem went (hk : Kept F w w') (hF : ∀ k,k < w.heap.size → F k → 6 ≤ col k ∧ col k ≤ 11) (c : Nat) : Went w col w' (paint w.heap.size c col) := ⟨fun _ h => paint_old h,hk.mono fun k h1 h2 => ⟨h1,hF k h1 h2⟩⟩
theorem MAt.setD (x : MAt w col ν S A L H T) (h' : DevAt w' ν.d ν.D ν.W (Bar w.heap.size col ν.d ν.D ν.W) S') (hk : Kept (Dev.Own ν.d ν.D ν.W) w w') : ∃ col',Went w col w' col' ∧ MAt w' col' ν S' A L H T :=
 have h7 := fun k y => (x.four.d.own k y).2
 ⟨_,went hk (fun k _ y => by rw [h7 k y];omega) 7,x.rest hk (fun k _ y => by rw [h7 k y];omega) 7 (x.four.setD h' hk)⟩
theorem MAt.readD (x : MAt w col ν S A L H T) (h' : DevAt w' ν.d ν.D ν.W (fun k => Bar w.heap.size col ν.d ν.D ν.W k ∨ w.heap.size ≤ k) S') (hk : Kept (Dev.Own ν.d ν.D ν.W) w w') : Went w col w' (paint w.heap.size 0 col) ∧ MAt w' (paint w.heap.size 0 col) ν S' A L H T :=
 have h7 := fun k y => (x.four.d.own k y).2
 ⟨went hk (fun k _ y => by rw [h7 k y];omega) 0,x.rest hk (fun k _ y => by rw [h7 k y];omega) 0 (x.four.readD h' hk 0)⟩
theorem MAt.setA (x : MAt w col ν S A L H T) (h' : ArAt w' (fun k => k < w.heap.size ∧ col k = 8) ν.a A') (hk : Kept (fun k => k < w.heap.size ∧ col k = 8) w w') : ∃ col',Went w col w' col' ∧ MAt w' col' ν S A' L H T :=
 ⟨_,went hk (fun k _ y => by rw [y.2];omega) 0,x.rest hk (fun k _ y => by rw [y.2];omega) 0 (x.four.setA h' hk 0)⟩
theorem MAt.setL (x : MAt w col ν S A L H T) (h' : ListAt w' ν.b ν.B ν.K L') (hk : Kept (Rowed.Own ν.b ν.B) w w') : ∃ col',Went w col w' col' ∧ MAt w' col' ν S A L' H T :=
 have h9 := fun k y => (x.four.l.own k y).2
 ⟨_,went hk (fun k _ y => by rw [h9 k y];omega) 0,x.rest hk (fun k _ y => by rw [h9 k y];omega) 0 (x.four.setL h' hk 0)⟩
theorem MAt.setH (x : MAt w col ν S A L H T) (h' : HAt w' (fun k => k < w.heap.size ∧ col k = 10) ν.h H') (hk : Kept (fun k => k < w.heap.size ∧ col k = 10) w w') : ∃ col',Went w col w' col' ∧ MAt w' col' ν S A L H' T :=
 ⟨_,went hk (fun k _ y => by rw [y.2];omega) 0,x.rest hk (fun k _ y => by rw [y.2];omega) 0 (x.four.setH h' hk 0)⟩
theorem MAt.setT (x : MAt w col ν S A L H T) (q : Nat) (t : Bool) : ∃ col',Went w col (w.setCell ⟨ν.t,q,none⟩ (.bool t)) col' ∧ MAt (w.setCell ⟨ν.t,q,none⟩ (.bool t)) col' ν S A L H (TabM.upd T q t) := by
 have hk := kept_set w ν.t q (.bool t)
 have hs : ∀ k,k = ν.t → col k = 11 := fun k e => e ▸ x.ct
 have hne : ν.r ≠ ν.t := fun e => by have := x.cr;rw [e,x.ct] at this;omega
 refine ⟨_,went hk (fun k _ y => by rw [hs k y];omega) 0,x.own.kept hk hne,?_,x.four.keep hk (fun k _ y => by rw [hs k y];omega) 0,(paint_old x.own.lt).trans x.cr,(paint_old x.th.lt).trans x.ct⟩
 refine (x.th.set q _).congr fun i _ => ?_
 show (if i = q then Value.bool t else .bool (T i)) = .bool (TabM.upd T q t i)
 by_cases e : i = q
 ·subst e;rw [if_pos rfl,TabM.upd_same]
 ·rw [if_neg e,TabM.upd_other _ _ e]
theorem sl_off {k : IntKind} {m : Nat} {P : Option Addr} {zs : List Int} (h : Sl w m k P n zs) (hk : Kept F w w') (ho : ∀ x,P = some x → ¬ F x.block) : Sl w' m k P n zs :=
 ⟨h.1,fun h0 => by
  obtain ⟨g,o,e,hb,hc⟩ := h.2 h0
  exact ⟨g,o,e,hb,fun j hj => hk.cellN (hc j hj) (show ¬ F g from ho _ e)⟩⟩
end
end RgS
namespace ArD
open Go.ChangeShapes Go.WideShapes Go.ChangeAt Go.RowKit
open Mem Blk Cells Orow TabM ArM ArC Stages
section
variable {w w' : World} {G H F : Nat → Prop} {d g cap dl Dl dt Dt : Nat} {T : Tb} {a : Ar}
theorem get_big (h : Big w G d g cap dl Dl dt Dt T a) (hg : ArM.Good a) (p : Int) : Calls Tryz.prog 156 #[.pointer (some ⟨dt,0,none⟩),.int .i64 p] w fun e w' => e = .returned (.int .i64 (a.find p)) ∧ w = w' := by
 have := TabO.get_any h.ta p
 rwa [h.ts.get hg p] at this
theorem find_any (h : ArAt w G d a) (p : Int) : Calls Tryz.prog 102 #[.pointer (some ⟨d,0,none⟩),.int .i64 p] w fun e w' => e = .returned (.int .i64 (a.find p)) ∧ w = w' := by
 rcases h.mem with h' | ⟨g,cap,dl,Dl,dt,Dt,T,h'⟩
 ·have c0 := h'.h2
  have HG := hid (TabO.get_nil (w := w) (key := p))
  have HE : Hid (a.find p = -1) := find_none fun x hx => by have := h'.zero;omega
  clear h h'
  go_enter Tryz.func102,Tryz.ntmps102
  go_wp2_with (go_at_call 156;(with_reducible refine HG.out.mono ?_);rintro e w' ⟨rfl,rfl⟩)
  go_ret
  exact ⟨by rw [HE.out];rfl,rfl⟩
 ·have c0 := h'.h2
  have HG := hid (get_big h' h.good p)
  clear h h'
  go_enter Tryz.func102,Tryz.ntmps102
  go_wp2_with (go_at_call 156;(with_reducible refine HG.out.mono ?_);rintro e w' ⟨rfl,rfl⟩)
  go_ret
  exact ⟨rfl,rfl⟩
theorem free_any (h : ArAt w G d a) : Calls Tryz.prog 145 #[.pointer (some ⟨d,0,none⟩)] w fun e w' => e = .returned (.int .i64 (a.Q.length : Int)) ∧ w = w' := by
 rcases h.mem with h' | ⟨g,cap,dl,Dl,dt,Dt,T,h'⟩
 ·have c0 := h'.h1
  have HE : Hid (a.Q = []) := h.good.empty h'.zero
  clear h h'
  go_enter Tryz.func145,Tryz.ntmps145
  go_wp2_with (go_at_call 139;(with_reducible refine ListC.len_nil.mono ?_);rintro e w' ⟨rfl,rfl⟩)
  go_ret
  exact ⟨by rw [HE.out];rfl,rfl⟩
 ·have c0 := h'.h1
  have HG := hid (ListC.len_any h'.li)
  clear h h'
  go_enter Tryz.func145,Tryz.ntmps145
  go_wp2_with (go_at_call 139;(with_reducible refine HG.out.mono ?_);rintro e w' ⟨rfl,rfl⟩)
  go_ret
  exact ⟨rfl,rfl⟩
theorem ArAt.big (h : ArAt w G d a) (hn : 0 < a.n) : ∃ g cap dl Dl dt Dt T,Big w G d g cap dl Dl dt Dt T a := by
 rcases h.mem with h' | h'
 ·have := h'.zero;omega
 ·exact h'
theorem Big.turn {F' : Nat → Fr} {T' : Tb} {n' : Nat} (h : Big w G d g cap dl Dl dt Dt T a) (hn : n' = a.n) (hk : Kept (· = g) w w') (hf : FR w' g cap n' F') (ht : T' = T) (hs : Tabs T' ⟨n',F',a.B,a.Q⟩) : Big w' G d g cap dl Dl dt Dt T' ⟨n',F',a.B,a.Q⟩ := by
 subst hn ht
 refine ⟨h.hd.kept hk h.ne.dg,hf,h.li.kept hk fun k x y => ?_,TabC.Raw.kept h.ta hk fun k x y => ?_,hs,h.ne,h.inG,h.pos⟩
 ·subst x
  rcases y with y | y
  ·exact h.ne.gdl y
  ·exact h.ne.gDl y
 ·subst x
  rcases y with y | y
  ·exact h.ne.gdt y
  ·exact h.ne.gDt y
theorem pin_bad (h : ArAt w G d a) (k : Int) (hk : a.used k = false) : Calls Tryz.prog 149 #[.pointer (some ⟨d,0,none⟩),.int .i64 k] w fun e w' => e = .returned (.int .i64 2) ∧ w = w' := by
 have HU := hid (used_bad h k hk)
 clear h hk
 go_enter Tryz.func149,Tryz.ntmps149
 go_wp2_with (go_at_call 148;(with_reducible refine HU.out.mono ?_);rintro e w' ⟨rfl,rfl⟩)
 go_ret
 exact ⟨rfl,rfl⟩
theorem pin_any (h : ArAt w G d a) (k : Int) : Calls Tryz.prog 149 #[.pointer (some ⟨d,0,none⟩),.int .i64 k] w (APost G d w (.int .i64 (a.pinC k)) (a.pin k)) := by
 cases hu : a.used k with
 | false =>
  have e1 : a.pinC k = 2 := by unfold Ar.pinC;rw [hu];rfl
  have e2 : a.pin k = a := by unfold Ar.pin;rw [e1];rfl
  rw [e1,e2]
  exact (pin_bad h k hu).mono fun e w' ⟨h1,h2⟩ => ⟨h1,h2 ▸ h,h2 ▸ Kept.refl _ _⟩
 | true =>
  obtain ⟨f,rfl,hf,hs⟩ := used_iff.1 hu
  have HG := hid (h.good.pin (f : Int))
  have hbd := h.good.use f hf hs
  have hn32 := h.good.n
  obtain ⟨g,cap,dl,Dl,dt,Dt,T,hb⟩ := ArAt.big h (by omega)
  have HU := hid (used_good hb h.good.n f hf hs)
  have c0 := hb.h0
  have f2 := hb.fr.c2 hf
  have fz := hb.fr.frozen (f * 5 + 2)
  have hfz : (f : Int) < (a.n : Int) := by omega
  have hnz : (a.n : Int) ≤ 32 := by omega
  by_cases h1000 : 1000 ≤ (a.F f).pn
  ·have e1 : a.pinC (f : Int) = 12 := by unfold Ar.pinC;rw [if_pos hu,Int.toNat_natCast,if_pos h1000]
   have e2 : a.pin (f : Int) = a := by unfold Ar.pin;rw [e1];rfl
   have h1e : (a.F f).pn = 1000 := by omega
   rw [h1e] at f2
   have HA := hid h
   rw [e1,e2]
   clear h hb hbd h1000 h1e e1 e2 HG hu hs
   go_enter Tryz.func149,Tryz.ntmps149
   go_wp2_with (go_at_call 148;(with_reducible refine HU.out.mono ?_);rintro e w' ⟨rfl,rfl⟩)
   go_ret
   exact ⟨rfl,HA.out,Kept.refl _ _⟩
  ·have e1 : a.pinC (f : Int) = 0 := by unfold Ar.pinC;rw [if_pos hu,Int.toNat_natCast,if_neg h1000]
   have e2 : a.pin (f : Int) = a.turn f ⟨(a.F f).st,(a.F f).pg,(a.F f).pn + 1,(a.F f).di⟩ := by unfold Ar.pin;rw [if_pos e1,Int.toNat_natCast]
   rw [e2] at HG
   rw [e1,e2]
   have HK := hid (kept_set w g (f * 5 + 2) (.int .i64 ((a.F f).pn + 1)))
   have HB := hid (Big.turn hb rfl HK.out (hb.fr.set2 f ((a.F f).pn + 1)) rfl (hb.ts.turn (v := ⟨(a.F f).st,(a.F f).pg,(a.F f).pn + 1,(a.F f).di⟩) (B' := a.B) (Q' := a.Q) hf Iff.rfl fun _ => rfl))
   have HI := hid hb.inG
   have h1p : ((a.F f).pn == 1000) = false := by rw [beq_eq_false_iff_ne];omega
   obtain ⟨_,_,hp0,hp1⟩ := hbd
   clear h hb h1000 e1 e2 hu hs
   unfold Ar.turn at HG ⊢
   generalize (a.F f).pn = pn at *
   go_enter Tryz.func149,Tryz.ntmps149
   go_wp2_with (go_at_call 148;(with_reducible refine HU.out.mono ?_);rintro e w' ⟨rfl,rfl⟩)
   go_ret
   exact ⟨rfl,⟨HG.out,.inr ⟨_,_,_,_,_,_,_,HB.out⟩⟩,HK.out.mono fun k _ e => by subst e;exact HI.out.2.1⟩
theorem unpin_bad (h : ArAt w G d a) (k : Int) (hk : a.used k = false) : Calls Tryz.prog 100 #[.pointer (some ⟨d,0,none⟩),.int .i64 k] w fun e w' => e = .returned (.int .i64 2) ∧ w = w' := by
 have HU := hid (used_bad h k hk)
 clear h hk
 go_enter Tryz.func100,Tryz.ntmps100
 go_wp2_with (go_at_call 148;(with_reducible refine HU.out.mono ?_);rintro e w' ⟨rfl,rfl⟩)
 go_ret
 exact ⟨rfl,rfl⟩
theorem unpin_any (h : ArAt w G d a) (k : Int) : Calls Tryz.prog 100 #[.pointer (some ⟨d,0,none⟩),.int .i64 k] w (APost G d w (.int .i64 (a.unpinC k)) (a.unpin k)) := by
 cases hu : a.used k with
 | false =>
  have e1 : a.unpinC k = 2 := by unfold Ar.unpinC;rw [hu];rfl
  have e2 : a.unpin k = a := by unfold Ar.unpin;rw [e1];rfl
  rw [e1,e2]
  exact (unpin_bad h k hu).mono fun e w' ⟨h1,h2⟩ => ⟨h1,h2 ▸ h,h2 ▸ Kept.refl _ _⟩
 | true =>
  obtain ⟨f,rfl,hf,hs⟩ := used_iff.1 hu
  have HG := hid (h.good.unpin (f : Int))
  have hbd := h.good.use f hf hs
  have hn32 := h.good.n
  obtain ⟨g,cap,dl,Dl,dt,Dt,T,hb⟩ := ArAt.big h (by omega)
  have HU := hid (used_good hb h.good.n f hf hs)
  have c0 := hb.h0
  have f2 := hb.fr.c2 hf
  have fz := hb.fr.frozen (f * 5 + 2)
  have hfz : (f : Int) < (a.n : Int) := by omega
  have hnz : (a.n : Int) ≤ 32 := by omega
  by_cases hz0 : (a.F f).pn = 0
  ·have e1 : a.unpinC (f : Int) = 12 := by unfold Ar.unpinC;rw [if_pos hu,Int.toNat_natCast,if_pos hz0]
   have e2 : a.unpin (f : Int) = a := by unfold Ar.unpin;rw [e1];rfl
   have h1e : (a.F f).pn = 0 := hz0
   rw [h1e] at f2
   have HA := hid h
   rw [e1,e2]
   clear h hb hbd hz0 h1e e1 e2 HG hu hs
   go_enter Tryz.func100,Tryz.ntmps100
   go_wp2_with (go_at_call 148;(with_reducible refine HU.out.mono ?_);rintro e w' ⟨rfl,rfl⟩)
   go_ret
   exact ⟨rfl,HA.out,Kept.refl _ _⟩
  ·have e1 : a.unpinC (f : Int) = 0 := by unfold Ar.unpinC;rw [if_pos hu,Int.toNat_natCast,if_neg hz0]
   have e2 : a.unpin (f : Int) = a.turn f ⟨(a.F f).st,(a.F f).pg,(a.F f).pn - 1,(a.F f).di⟩ := by unfold Ar.unpin;rw [if_pos e1,Int.toNat_natCast]
   rw [e2] at HG
   rw [e1,e2]
   have HK := hid (kept_set w g (f * 5 + 2) (.int .i64 ((a.F f).pn - 1)))
   have HB := hid (Big.turn hb rfl HK.out (hb.fr.set2 f ((a.F f).pn - 1)) rfl (hb.ts.turn (v := ⟨(a.F f).st,(a.F f).pg,(a.F f).pn - 1,(a.F f).di⟩) (B' := a.B) (Q' := a.Q) hf Iff.rfl fun _ => rfl))
   have HI := hid hb.inG
   have h1p : ((a.F f).pn == 0) = false := by rw [beq_eq_false_iff_ne];omega
   obtain ⟨_,_,hp0,hp1⟩ := hbd
   clear h hb hz0 e1 e2 hu hs
   unfold Ar.turn at HG ⊢
   generalize (a.F f).pn = pn at *
   go_enter Tryz.func100,Tryz.ntmps100
   go_wp2_with (go_at_call 148;(with_reducible refine HU.out.mono ?_);rintro e w' ⟨rfl,rfl⟩)
   go_ret
   exact ⟨rfl,⟨HG.out,.inr ⟨_,_,_,_,_,_,_,HB.out⟩⟩,HK.out.mono fun k _ e => by subst e;exact HI.out.2.1⟩
theorem mark_any (h : ArAt w G d a) (k : Int) (q : Bool) : Calls Tryz.prog 91 #[.pointer (some ⟨d,0,none⟩),.int .i64 k,.bool q] w (APost G d w (.int .i64 (a.markC k)) (a.mark k q)) := by
 cases hu : a.used k with
 | false =>
  have e1 : a.markC k = 2 := by unfold Ar.markC;rw [hu];rfl
  have e2 : a.mark k q = a := by unfold Ar.mark;rw [hu];rfl
  rw [e1,e2]
  have HU := hid (used_bad h k hu)
  have HA := hid h
  clear h hu e1 e2
  go_enter Tryz.func91,Tryz.ntmps91
  go_wp2_with (go_at_call 148;(with_reducible refine HU.out.mono ?_);rintro e w' ⟨rfl,rfl⟩)
  go_ret
  exact ⟨rfl,HA.out,Kept.refl _ _⟩
 | true =>
  obtain ⟨f,rfl,hf,hs⟩ := used_iff.1 hu
  have HG := hid (h.good.mark (f : Int) q)
  have hn32 := h.good.n
  obtain ⟨g,cap,dl,Dl,dt,Dt,T,hb⟩ := ArAt.big h (by omega)
  have HU := hid (used_good hb h.good.n f hf hs)
  have c0 := hb.h0
  have f4 := hb.fr.c4 hf
  have fz := hb.fr.frozen (f * 5 + 4)
  have hfz : (f : Int) < (a.n : Int) := by omega
  have hnz : (a.n : Int) ≤ 32 := by omega
  have e1 : a.markC (f : Int) = 0 := by unfold Ar.markC;rw [if_pos hu]
  have e2 : a.mark (f : Int) q = a.turn f ⟨(a.F f).st,(a.F f).pg,(a.F f).pn,q⟩ := by unfold Ar.mark;rw [if_pos hu,Int.toNat_natCast]
  rw [e2] at HG
  rw [e1,e2]
  have HK := hid (kept_set w g (f * 5 + 4) (.bool q))
  have HB := hid (Big.turn hb rfl HK.out (hb.fr.set4 f q) rfl (hb.ts.turn (v := ⟨(a.F f).st,(a.F f).pg,(a.F f).pn,q⟩) (B' := a.B) (Q' := a.Q) hf Iff.rfl fun _ => rfl))
  have HI := hid hb.inG
  clear h hb e1 e2 hu hs
  unfold Ar.turn at HG ⊢
  go_enter Tryz.func91,Tryz.ntmps91
  go_wp2_with (go_at_call 148;(with_reducible refine HU.out.mono ?_);rintro e w' ⟨rfl,rfl⟩)
  go_ret
  exact ⟨rfl,⟨HG.out,.inr ⟨_,_,_,_,_,_,_,HB.out⟩⟩,HK.out.mono fun k _ e => by subst e;exact HI.out.2.1⟩
end
end ArD
namespace ArR
open Go.ChangeShapes Go.WideShapes Go.ChangeAt Go.RowKit
open Mem Blk Cells Orow TabM ArM ArC ArD Stages
section
variable {w w' : World} {G H F : Nat → Prop} {d g cap dl Dl dt Dt : Nat} {T : Tb} {a : Ar}
theorem release_any (h : Core w G d g cap dl Dl dt Dt T a) (hn : a.n ≤ 32) (f : Nat) (hf : f < a.n) (hq : f ∉ a.Q) :
  Calls Tryz.prog 142 #[.pointer (some ⟨d,0,none⟩),.int .i64 (f : Int)] w fun e w' => e = .returned (.tuple #[]) ∧ Core w' G d g cap dl Dl dt Dt T (a.dropF f) ∧ Kept G w w' := by
 have c0 := h.h0
 have f0 := h.fr.c0 hf
 have f1 := h.fr.c1 hf
 have f2 := h.fr.c2 hf
 have f3 := h.fr.c3 hf
 have f4 := h.fr.c4 hf
 have fz := h.fr.frozen
 have hfz : (f : Int) < (a.n : Int) := by omega
 have hnz : (a.n : Int) ≤ 32 := by omega
 have HF : Hid (FR (setF w g f fFree) g cap a.n (upd a.F f fFree)) := h.fr.setF f fFree
 have HK := hid (kept_setF w g f fFree)
 have H := hid h
 clear h
 go_enter Tryz.func142,Tryz.ntmps142
 go_upto_region 1 with (fail)
 rw [show (((((w.setCell ⟨g,f * 5,none⟩ (.int .i64 0)).setCell ⟨g,f * 5 + 1,none⟩ (.int .i64 (-1))).setCell ⟨g,f * 5 + 2,none⟩ (.int .i64 0)).setCell ⟨g,f * 5 + 3,none⟩ (.int .i64 0)).setCell ⟨g,f * 5 + 4,none⟩ (.bool false)) = setF w g f fFree from rfl]
 have H1 := hid (H.out.frm HF.out HK.out)
 have HK1 := hid (H.out.kg HK.out)
 clear HF HK c0 f0 f1 f2 f3 f4 fz
 generalize setF w g f fFree = w1 at *
 have c1 := H1.out.h1
 have HB := hid (ListC.back_good H1.out.li f (by omega) hq)
 go_wp2_with (go_at_call 176;(with_reducible refine HB.out.mono ?_);rintro e w2 ⟨rfl,hl,hk,_⟩;have HL := hid hl;have HK2 := hid hk;clear hl hk)
 go_end0
 exact ⟨rfl,H1.out.lst HL.out HK2.out,HK1.out.trans (H.out.kl HK2.out)⟩
theorem drop_bad (h : ArAt w G d a) (k : Int) (hk : a.used k = false) : Calls Tryz.prog 159 #[.pointer (some ⟨d,0,none⟩),.int .i64 k] w fun e w' => e = .returned (.int .i64 2) ∧ w = w' := by
 have HU := hid (used_bad h k hk)
 clear h hk
 go_enter Tryz.func159,Tryz.ntmps159
 go_wp2_with (go_at_call 148;(with_reducible refine HU.out.mono ?_);rintro e w' ⟨rfl,rfl⟩)
 go_ret
 exact ⟨rfl,rfl⟩
theorem drop_any (h : ArAt w G d a) (k : Int) : Calls Tryz.prog 159 #[.pointer (some ⟨d,0,none⟩),.int .i64 k] w (APost G d w (.int .i64 (a.dropC k)) (a.drop k)) := by
 cases hu : a.used k with
 | false =>
  have e1 : a.dropC k = 2 := by unfold Ar.dropC;rw [hu];rfl
  have e2 : a.drop k = a := by unfold Ar.drop;rw [e1];rfl
  rw [e1,e2]
  exact (drop_bad h k hu).mono fun e w' ⟨h1,h2⟩ => ⟨h1,h2 ▸ h,h2 ▸ Kept.refl _ _⟩
 | true =>
  obtain ⟨f,rfl,hf,hs⟩ := used_iff.1 hu
  have HG := hid (h.good.drop (f : Int))
  have hbd := h.good.use f hf hs
  have hn32 := h.good.n
  obtain ⟨g,cap,dl,Dl,dt,Dt,T,hb⟩ := ArAt.big h (by omega)
  have HU := hid (used_good hb h.good.n f hf hs)
  have c0 := hb.h0
  have f2 := hb.fr.c2 hf
  have f1 := hb.fr.c1 hf
  have c2 := hb.h2
  have hfz : (f : Int) < (a.n : Int) := by omega
  have hnz : (a.n : Int) ≤ 32 := by omega
  by_cases hpos : 0 < (a.F f).pn
  ·have e1 : a.dropC (f : Int) = 7 := by unfold Ar.dropC;rw [if_pos hu,Int.toNat_natCast,if_pos hpos]
   have e2 : a.drop (f : Int) = a := by unfold Ar.drop;rw [e1];rfl
   have HA := hid h
   rw [e1,e2]
   clear h hb hbd e1 e2 HG hu hs
   generalize (a.F f).pn = pn at *
   go_enter Tryz.func159,Tryz.ntmps159
   go_wp2_with (go_at_call 148;(with_reducible refine HU.out.mono ?_);rintro e w' ⟨rfl,rfl⟩)
   go_ret
   exact ⟨rfl,HA.out,Kept.refl _ _⟩
  ·have e1 : a.dropC (f : Int) = 0 := by unfold Ar.dropC;rw [if_pos hu,Int.toNat_natCast,if_neg hpos]
   have e2 : a.drop (f : Int) = a.dropF f := by unfold Ar.drop;rw [if_pos e1,Int.toNat_natCast]
   rw [e2] at HG
   rw [e1,e2]
   have hbd2 := hb.kept (Kept.drew' (F := fun _ => False) w) fun _ _ x => x
   have HO := hid (TabO.out_any hbd2.ta (a.F f).pg)
   have HT : Hid (Tabs (T.out (a.F f).pg) (a.dropF f)) := hb.ts.out h.good hf hs (by show (0 : Int) ≠ 1;omega)
   have HR : Hid (∀ w1,TabC.TabAt w1 dt Dt (T.out (a.F f).pg) → Kept (TabC.Own dt Dt) w.drew w1 → Calls Tryz.prog 142 #[.pointer (some ⟨d,0,none⟩),.int .i64 (f : Int)] w1 fun e w' => e = .returned (.tuple #[]) ∧ Core w' G d g cap dl Dl dt Dt (T.out (a.F f).pg) (a.dropF f) ∧ Kept G w1 w') := fun w1 ht hk => release_any (hbd2.core.tab ht hk) hn32 f hf (fun hm => by have := (h.good.q f).1 hm;omega)
   have HI := hid hb.core
   have HP := hid hb.pos
   have h0 : (a.F f).pn = 0 := by omega
   rw [h0] at f2
   clear h hb e1 e2 hu hs hbd hpos h0 hbd2
   generalize T.get (a.F f).pg = tg at *
   generalize T.out (a.F f).pg = T2 at *
   generalize (a.F f).pg = pg at *
   go_enter Tryz.func159,Tryz.ntmps159
   go_upto_region 6 with (go_at_call 148;(with_reducible refine HU.out.mono ?_);rintro e w' ⟨rfl,rfl⟩)
   have hne := HI.out.ne
   have q0 := up_cell (F := TabC.Own dt Dt) (w := w.drew) (p := ⟨d,0,none⟩) c0 (fun x => x.elim hne.ddt hne.dDt)
   have q1 := up_cell (F := TabC.Own dt Dt) (w := w.drew) (p := ⟨d,514,none⟩) c2 (fun x => x.elim hne.ddt hne.dDt)
   have q2 := up_cell (F := TabC.Own dt Dt) (w := w.drew) (p := ⟨g,f * 5 + 1,none⟩) f1 (fun x => x.elim hne.gdt hne.gDt)
   clear hne
   refine wp_region_stages (Kept (TabC.Own dt Dt)) (kept_refl _) (kept_trans _) [([0,1,2,3,4,5,6,7,8,9,10,11],12)] [] (by kernel_rfl) (by kernel_rfl) ?_
   simp only [selSt,sel,ZmC,ZmN,ZgS,ZgZ]
   refine st_cons fun K1 hK1 => ?_
   repeat (go_big_quiet_step (fail))
   refine wpQuiet_nil ?_
   clear q0 q1 q2
   go_wp2_with (go_at_call 188;(with_reducible refine HO.out.mono ?_);rintro e w1 ⟨rfl,ht,hk⟩;have HT1 := hid ht;have HK1 := hid hk;clear ht hk)
   refine norm_up (hK1 _ _ HK1.out (st_nil fun K2 hK2 => wpQuiet_nil (hK2 _ ?_)))
   clear hK1 hK2 K1 K2
   go_wp2_with (go_at_call 142;(with_reducible refine (HR.out _ HT1.out HK1.out).mono ?_);rintro e w2 ⟨rfl,hc,hk⟩;have HC := hid hc;have HK2 := hid hk;clear hc hk)
   go_ret
   exact ⟨rfl,⟨HG.out,.inr ⟨_,_,_,_,_,_,_,HC.out.big HT.out HP.out⟩⟩,((Kept.drew' w).trans (HI.out.kt HK1.out)).trans HK2.out⟩
end
end ArR
namespace HdO
open Go.ChangeShapes Go.WideShapes Go.ChangeAt Go.RowKit
open Mem Blk Cells Orow HdM HdC Stages
section
variable {w w' : World} {G F X : Nat → Prop} {v : Value} {n d : Nat} {a : Hs}
theorem client_cases (a : Hs) (c : Int) : (¬ (0 ≤ c ∧ c < (a.n : Int))) ∨ ∃ k : Nat,c = (k : Int) ∧ k < a.n := by
 by_cases h : 0 ≤ c ∧ c < (a.n : Int)
 ·obtain ⟨k,rfl⟩ := Int.eq_ofNat_of_zero_le h.1
  exact .inr ⟨k,rfl,by omega⟩
 ·exact .inl h
theorem page_any (h : HAt w G d a) (c j : Int) : Calls Tryz.prog 152 #[.pointer (some ⟨d,0,none⟩),.int .i64 c,.int .i64 j] w fun e w' => e = .returned (.int .i64 (a.page c j)) ∧ w = w' := by
 rcases client_cases a c with hc | ⟨k,rfl,hk⟩
 ·rw [page_out hc]
  have HF := hid (of_bad h c hc)
  clear h hc
  by_cases h0 : j < 0
  ·go_enter Tryz.func152,Tryz.ntmps152
   go_wp2_with (go_at_call 144;(with_reducible refine HF.out.mono ?_);rintro e w' ⟨rfl,rfl⟩)
   go_ret
   exact ⟨rfl,rfl⟩
  ·have h1 : 0 ≤ j := by omega
   clear h0
   go_enter Tryz.func152,Tryz.ntmps152
   go_wp2_with (go_at_call 144;(with_reducible refine HF.out.mono ?_);rintro e w' ⟨rfl,rfl⟩)
   go_ret
   exact ⟨rfl,rfl⟩
 ·obtain ⟨g,cap,b,c,ho⟩ := h.own hk
  have HF := hid (of_good ho hk)
  have HR := hid ho.row
  clear h ho
  by_cases hj : 0 ≤ j ∧ j < 6
  ·obtain ⟨h0,h6⟩ := hj
   obtain ⟨i,rfl⟩ := Int.eq_ofNat_of_zero_le h0
   have hi : i < 6 := by omega
   rw [page_in hk hi]
   have r1 := hcell_get HR.out hi
   clear hk h0 hi
   go_enter Tryz.func152,Tryz.ntmps152
   go_wp2_with (go_at_call 144;(with_reducible refine HF.out.mono ?_);rintro e w' ⟨rfl,rfl⟩)
   go_ret
   exact ⟨rfl,rfl⟩
  ·rw [page_off hk hj]
   clear hk
   by_cases h0 : j < 0
   ·clear hj
    go_enter Tryz.func152,Tryz.ntmps152
    go_wp2_with (go_at_call 144;(with_reducible refine HF.out.mono ?_);rintro e w' ⟨rfl,rfl⟩)
    go_ret
    exact ⟨rfl,rfl⟩
   ·have h1 : 0 ≤ j := by omega
    have h6 : 6 ≤ j := by omega
    clear h0 hj
    go_enter Tryz.func152,Tryz.ntmps152
    go_wp2_with (go_at_call 144;(with_reducible refine HF.out.mono ?_);rintro e w' ⟨rfl,rfl⟩)
    go_ret
    exact ⟨rfl,rfl⟩
theorem give_any (h : HAt w G d a) (c p : Int) : Calls Tryz.prog 150 #[.pointer (some ⟨d,0,none⟩),.int .i64 c,.int .i64 p] w (HPost G d w (.int .i64 (a.give c p)) (a.gave c p)) := by
 rcases client_cases a c with hc | ⟨k,rfl,hk⟩
 ·rw [gave_not (give_out hc p),give_out hc p]
  have HF := hid (of_bad h c hc)
  have HL := hid (least_nil w none 0)
  have HA := hid h
  clear h hc
  by_cases h0 : p < 0
  ·go_enter Tryz.func150,Tryz.ntmps150
   go_wp2_with (first
    | (go_at_call 144;(with_reducible refine HF.out.mono ?_);rintro e w' ⟨rfl,rfl⟩)
    | (go_at_call 143;(with_reducible refine HL.out.mono ?_);rintro e w' ⟨rfl,rfl⟩))
   go_ret
   exact ⟨rfl,HA.out,Kept.refl _ _⟩
  ·have h1 : 0 ≤ p := by omega
   clear h0
   go_enter Tryz.func150,Tryz.ntmps150
   go_wp2_with (first
    | (go_at_call 144;(with_reducible refine HF.out.mono ?_);rintro e w' ⟨rfl,rfl⟩)
    | (go_at_call 143;(with_reducible refine HL.out.mono ?_);rintro e w' ⟨rfl,rfl⟩))
   go_ret
   exact ⟨rfl,HA.out,Kept.refl _ _⟩
 ·obtain ⟨g,cap,b,c,ho⟩ := h.own hk
  have HF := hid (of_good ho hk)
  have HL := hid (least_six (c := c) ho.row)
  have HA := hid h
  have HO := hid ho
  clear h ho
  by_cases h0 : p < 0
  ·rw [gave_not (give_low h0 _),give_low h0]
   generalize hnd (a.H k) 6 = z at HL
   clear hk
   go_enter Tryz.func150,Tryz.ntmps150
   go_wp2_with (first
    | (go_at_call 144;(with_reducible refine HF.out.mono ?_);rintro e w' ⟨rfl,rfl⟩)
    | (go_at_call 143;(with_reducible refine HL.out.mono ?_);rintro e w' ⟨rfl,rfl⟩))
   go_ret
   exact ⟨rfl,HA.out,Kept.refl _ _⟩
  ·have h1 : 0 ≤ p := by omega
   have hgi := give_in hk h0
   clear h0 hk
   rcases hnd_cases (a.H k) 6 with ⟨e1,_⟩ | ⟨j,hj,e1,e2,_⟩
   ·rw [e1] at HL hgi
    rw [gave_not hgi,hgi]
    clear e1 hgi
    go_enter Tryz.func150,Tryz.ntmps150
    go_wp2_with (first
     | (go_at_call 144;(with_reducible refine HF.out.mono ?_);rintro e w' ⟨rfl,rfl⟩)
     | (go_at_call 143;(with_reducible refine HL.out.mono ?_);rintro e w' ⟨rfl,rfl⟩))
    go_ret
    exact ⟨rfl,HA.out,Kept.refl _ _⟩
   ·rw [e1] at HL hgi
    rw [gave_at hgi,hgi]
    have r1 := hcell_get HO.out.row hj
    have rf := HO.out.row.frozen j
    have hjz : (j : Int) < 6 := by omega
    have hjn : ((j : Int) == -1) = false := by simp
    have HP : Hid (HAt (w.setCell ⟨b,j,none⟩ (.int .i64 p)) G d (a.put k j p)) := HO.out.put j p (by omega)
    have HI := hid HO.out.inG
    clear e1 e2 hgi hj HO HA
    go_enter Tryz.func150,Tryz.ntmps150
    go_wp2_with (first
     | (go_at_call 144;(with_reducible refine HF.out.mono ?_);rintro e w' ⟨rfl,rfl⟩)
     | (go_at_call 143;(with_reducible refine HL.out.mono ?_);rintro e w' ⟨rfl,rfl⟩))
    go_ret
    exact ⟨rfl,HP.out,(kept_set w b j _).mono fun x _ e => by rw [e];exact HI.out⟩
theorem back_any (h : HAt w G d a) (c j : Int) : Calls Tryz.prog 99 #[.pointer (some ⟨d,0,none⟩),.int .i64 c,.int .i64 j] w (HPost G d w (.int .i64 (a.page c j)) (a.back c j)) := by
 have HG := hid (page_any h c j)
 by_cases hp : a.page c j = -1
 ·rw [back_not hp,hp]
  rw [hp] at HG
  have HA := hid h
  clear h hp
  go_enter Tryz.func99,Tryz.ntmps99
  go_wp2_with (go_at_call 152;(with_reducible refine HG.out.mono ?_);rintro e w' ⟨rfl,rfl⟩)
  go_ret
  exact ⟨rfl,HA.out,Kept.refl _ _⟩
 ·rcases client_cases a c with hc | ⟨k,rfl,hk⟩
  ·exact absurd (page_out hc j) hp
  ·by_cases hj : 0 ≤ j ∧ j < 6
   ·obtain ⟨h0,h6⟩ := hj
    obtain ⟨i,rfl⟩ := Int.eq_ofNat_of_zero_le h0
    have hi : i < 6 := by omega
    obtain ⟨g,cap,b,c,ho⟩ := h.own hk
    have HF := hid (of_good ho hk)
    have r1 := hcell_get ho.row hi
    have rf := ho.row.frozen i
    have HP : Hid (HAt (w.setCell ⟨b,i,none⟩ (.int .i64 (-1))) G d (a.put k i (-1))) := ho.put i (-1) (by omega)
    have HI := hid ho.inG
    rw [back_at hp]
    have hp' : (a.page (k : Int) (i : Int) != -1) = true := by simpa using hp
    generalize a.page (k : Int) (i : Int) = z at HG hp' ⊢
    clear h ho hp hk hi h0
    go_enter Tryz.func99,Tryz.ntmps99
    go_wp2_with (first
     | (go_at_call 152;(with_reducible refine HG.out.mono ?_);rintro e w' ⟨rfl,rfl⟩)
     | (go_at_call 144;(with_reducible refine HF.out.mono ?_);rintro e w' ⟨rfl,rfl⟩))
    go_ret
    exact ⟨rfl,HP.out,(kept_set w b i _).mono fun x _ e => by rw [e];exact HI.out⟩
   ·exact absurd (page_off hk hj) hp
theorem room_any (h : HAt w G d a) (c : Int) : Calls Tryz.prog 89 #[.pointer (some ⟨d,0,none⟩),.int .i64 c] w fun e w' => e = .returned (.bool (a.room c)) ∧ w = w' := by
 rcases client_cases a c with hc | ⟨k,rfl,hk⟩
 ·rw [room_out hc]
  have HF := hid (of_bad h c hc)
  have HL := hid (least_nil w none 0)
  clear h hc
  go_enter Tryz.func89,Tryz.ntmps89
  go_wp2_with (first
   | (go_at_call 144;(with_reducible refine HF.out.mono ?_);rintro e w' ⟨rfl,rfl⟩)
   | (go_at_call 143;(with_reducible refine HL.out.mono ?_);rintro e w' ⟨rfl,rfl⟩))
  go_ret
  exact ⟨rfl,rfl⟩
 ·obtain ⟨g,cap,b,c,ho⟩ := h.own hk
  have HF := hid (of_good ho hk)
  have HL := hid (least_six (c := c) ho.row)
  rw [room_in hk]
  clear h ho hk
  rcases hnd_cases (a.H k) 6 with ⟨e1,_⟩ | ⟨j,hj,e1,e2,_⟩
  ·rw [e1] at HL ⊢
   clear e1
   go_enter Tryz.func89,Tryz.ntmps89
   go_wp2_with (first
    | (go_at_call 144;(with_reducible refine HF.out.mono ?_);rintro e w' ⟨rfl,rfl⟩)
    | (go_at_call 143;(with_reducible refine HL.out.mono ?_);rintro e w' ⟨rfl,rfl⟩))
   go_ret
   exact ⟨rfl,rfl⟩
  ·rw [e1] at HL ⊢
   have hjn : ((j : Int) != -1) = true := by simp
   have hjd : (!decide ((j : Int) = -1)) = true := by simp
   rw [hjd]
   clear e1 e2 hj hjd
   go_enter Tryz.func89,Tryz.ntmps89
   go_wp2_with (first
    | (go_at_call 144;(with_reducible refine HF.out.mono ?_);rintro e w' ⟨rfl,rfl⟩)
    | (go_at_call 143;(with_reducible refine HL.out.mono ?_);rintro e w' ⟨rfl,rfl⟩))
   go_ret
   exact ⟨rfl,rfl⟩
structure Rows6 (w : World) (A : Option Addr) (d : Nat) (a : Hs) : Prop where
 get : ∀ i,i < a.n → ∃ g b c,A = some ⟨g,0,none⟩ ∧ w.cell? ⟨g,i,none⟩ = some (.slice (some ⟨b,0,none⟩) 6 c) ∧ OR w b 3 1 c 6 (hcell (a.H i))
theorem HAt.rows (h : HAt w G d a) : ∃ A cap,w.cell? ⟨d,0,none⟩ = some (.slice A a.n cap) ∧ Rows6 w A d a := by
 obtain ⟨v,q,cp,h0,h1,_⟩ := h.mem
 have c0 := h0.cell (i := 0) (by omega)
 rcases h1.out with ⟨rfl,e⟩ | ⟨g,cap,rfl,hr⟩
 ·exact ⟨none,0,by rw [c0,e],⟨fun i hi => by omega⟩⟩
 ·refine ⟨_,_,c0,⟨fun i hi => ?_⟩⟩
  obtain ⟨g',cap',e,hs,ho⟩ := h1.get hi
  injection e with e _ _
  injection e with e
  injection e with e
  subst e
  exact ⟨g,q i,cp i,rfl,hs,ho⟩
set_option maxHeartbeats 1000000 in
theorem pins_any (h : HAt w G d a) (p : Int) : Calls Tryz.prog 106 #[.pointer (some ⟨d,0,none⟩),.int .i64 p] w fun e w' => e = .returned (.int .i64 (a.pins p : Int)) ∧ w = w' := by
 by_cases hp : p < 0
 ·rw [pins_low hp]
  clear h
  go_enter Tryz.func106,Tryz.ntmps106
  go_wp2
  go_ret
  exact ⟨rfl,rfl⟩
 ·have h1 : 0 ≤ p := by omega
  obtain ⟨A,cap,c0,hr⟩ := HAt.rows h
  have HR := hid hr
  have HN := hid h.good.n
  have HSU : Hid (∀ i j,i < a.n → j ≤ 6 → sum (a.has p) i + cnt (a.H i) p j ≤ 42) := fun i j hi hj => by
   have e1 := sum_le (g := a.has p) (b := 6) (fun i => cnt_le _ _ _) i
   have e2 := cnt_le (a.H i) p j
   have := HN.out
   omega
  rw [pins_up hp]
  clear h hr hp
  have hnz : (a.n : Int) ≤ 6 := by have := HN.out;omega
  go_enter Tryz.func106,Tryz.ntmps106
  go_wp2
  go_loopg [5,21] a.n (fun gx s i wr => ∃ j : Nat,j + gx = a.n ∧ i = .int .i64 (j : Int) ∧ s = .int .i64 (sum (a.has p) j : Int) ∧ w = wr)
  case atStart => exact ⟨0,by omega,rfl,rfl,rfl⟩
  case round =>
   obtain ⟨j,hg,rfl,rfl,rfl⟩ := hrel
   have HG := hid hg
   clear hg
   by_cases hj : j < a.n
   ·have hjz : (j : Int) < (a.n : Int) := by omega
    obtain ⟨g,b,c,rfl,c1,hrow⟩ := HR.out.get j hj
    have HROW := hid hrow
    have HJ := hid hj
    clear hrow hj
    go_wp2
    go_step3
    go_wp2
    go_step3
    go_wp2
    go_loopg [5,27] 6 (fun gx s i wr => ∃ t : Nat,t + gx = 6 ∧ i = .int .i64 (t : Int) ∧ s = .int .i64 ((sum (a.has p) j + cnt (a.H j) p t : Nat) : Int) ∧ w = wr)
    case atStart => exact ⟨0,by omega,rfl,rfl,rfl⟩
    case round =>
     obtain ⟨t,hg,rfl,rfl,rfl⟩ := hrel
     have HT := hid hg
     clear hg
     by_cases ht : t < 6
     ·have htz : (t : Int) < 6 := by omega
      have r1 := hcell_get HROW.out ht
      have hs42 : ((sum (a.has p) j + cnt (a.H j) p t : Nat) : Int) ≤ 42 := by have := HSU.out j t HJ.out (by omega);omega
      have HY := hid fun h => cnt_yes (f := a.H j) (p := p) (m := t) h
      have HX := hid fun h => cnt_no (f := a.H j) (p := p) (m := t) h
      generalize a.H j t = x at r1 HY HX
      by_cases hx : x = p
      ·have hc := HY.out hx
       have HC := hid hc
       clear hc HY HX
       subst hx
       go_wp2
       go_roundg (gk - 1)
       case measure => have := HT.out;omega
       case rel => exact ⟨t + 1,by have := HT.out;omega,by go_num,by rw [HC.out];go_num,rfl⟩
      ·have hc := HX.out hx
       have HC := hid hc
       have hx' : (x != p) = true := by simpa using hx
       clear hc HY HX hx
       go_wp2
       go_roundg (gk - 1)
       case measure => have := HT.out;omega
       case rel => exact ⟨t + 1,by have := HT.out;omega,by go_num,by rw [HC.out],rfl⟩
     ·obtain rfl : t = 6 := by have := HT.out;omega
      clear ht
      go_wp2
      rw [Exit.noGoto_normal]
      go_wp2
      go_roundg (a.n - (j + 1))
      case measure => have := HG.out;have := HJ.out;omega
      case rel => exact ⟨j + 1,by have := HG.out;have := HJ.out;omega,by go_num,rfl,rfl⟩
   ·obtain rfl : j = a.n := by have := HG.out;omega
    go_wp2
    go_ret
    exact ⟨rfl,rfl⟩
end
end HdO
namespace RgA
open Go.ChangeShapes Go.WideShapes Go.ChangeAt Go.RowKit
open Mem Blk Cells RfP RgP RgS Stages
open ArM (Ar Fr)
open Dev (Dv DevAt)
open ListM (outL frontL okO)
open HdM (Hs)
section
variable {w : World} {col : Nat → Nat} {ν : Nm} {S : Dv} {A : Ar} {L : List Nat} {H : Hs} {T : Nat → Bool}
theorem heard_any (e : Int) (w : World) : Calls Tryz.prog 103 #[.int .i64 e] w fun x w' => x = .returned (.int .i64 (if e = 0 then 0 else 9)) ∧ w = w' := by
 by_cases h : e = 0
 ·subst h
  go_enter Tryz.func103,Tryz.ntmps103
  go_wp2
  go_ret
  exact ⟨rfl,rfl⟩
 ·have hb : (e != 0) = true := by simpa using h
  have HE : Hid ((if e = 0 then (0 : Int) else 9) = 9) := if_neg h
  go_enter Tryz.func103,Tryz.ntmps103
  go_wp2
  go_ret
  exact ⟨by first | rfl | (rw [HE.out];rfl),rfl⟩
theorem touch_any (x : MAt w col ν S A L H T) (f : Int) : Calls Tryz.prog 96 #[.pointer (some ⟨ν.r,0,none⟩),.int .i64 f] w (Post ν w col (.tuple #[]) S A (frontL ν.K (outL L f) f) H T) := by
 have c3 := x.c3
 have HO := hid (ListD.out_any x.order f)
 have HX := hid x
 clear x
 go_enter Tryz.func96,Tryz.ntmps96
 go_wp2_with (first
  | (go_at_call 153;(with_reducible refine HO.out.mono ?_);rintro e w1 ⟨rfl,hl,hk⟩;obtain ⟨c1,hw1,hm1⟩ := HX.out.setL hl hk;have HW1 := hid hw1;have d3 := hm1.c3;have HF := hid (ListC.front_any hm1.order f);have HM1 := hid hm1;clear hl hk hw1 hm1 c3)
  | (go_at_call 154;(with_reducible refine HF.out.mono ?_);rintro e w2 ⟨rfl,hl,hk,_⟩;obtain ⟨c2,hw2,hm2⟩ := HM1.out.setL hl hk;have HW2 := hid hw2;have HM2 := hid hm2;clear hl hk hw2 hm2 d3))
 go_end0
 exact ⟨rfl,c2,HW1.out.trans HW2.out,HM2.out⟩
theorem drop_any (x : MAt w col ν S A L H T) (f : Int) : Calls Tryz.prog 107 #[.pointer (some ⟨ν.r,0,none⟩),.int .i64 f] w (Post ν w col (.tuple #[]) S (A.drop f) (outL L f) H T) := by
 have c1 := x.c1
 have HO := hid (ArR.drop_any x.arena f)
 have HX := hid x
 clear x
 go_enter Tryz.func107,Tryz.ntmps107
 go_wp2_with (first
  | (go_at_call 159;(with_reducible refine HO.out.mono ?_);rintro e w1 ⟨rfl,hl,hk⟩;obtain ⟨c1,hw1,hm1⟩ := HX.out.setA hl hk;have HW1 := hid hw1;have d3 := hm1.c3;have HF := hid (ListD.out_any hm1.order f);have HM1 := hid hm1;clear hl hk hw1 hm1)
  | (go_at_call 153;(with_reducible refine HF.out.mono ?_);rintro e w2 ⟨rfl,hl,hk⟩;obtain ⟨c2,hw2,hm2⟩ := HM1.out.setL hl hk;have HW2 := hid hw2;have HM2 := hid hm2;clear hl hk hw2 hm2 d3))
 go_end0
 exact ⟨rfl,c2,HW1.out.trans HW2.out,HM2.out⟩
def findC (n : Nat) (T : Nat → Bool) (p : Int) : Int := if ¬ (0 ≤ p ∧ p < (n : Int)) then 1 else if T p.toNat = false then 2 else 0
theorem find_any (x : MAt w col ν S A L H T) (p : Int) (hn : ν.n ≤ 48) : Calls Tryz.prog 93 #[.pointer (some ⟨ν.r,0,none⟩),.int .i64 p] w fun e w' => e = .returned (.int .i64 (findC ν.n T p)) ∧ w = w' := by
 have c4 := x.c4
 have hnn : (ν.n : Int) ≤ 48 := by omega
 by_cases h0 : p < 0
 ·have HE : Hid (findC ν.n T p = 1) := if_pos (by omega)
  clear x
  go_enter Tryz.func93,Tryz.ntmps93
  go_wp2
  go_ret
  exact ⟨by rw [HE.out];rfl,rfl⟩
 ·by_cases h1 : p < (ν.n : Int)
  ·obtain ⟨q,rfl⟩ := Int.eq_ofNat_of_zero_le (by omega : 0 ≤ p)
   have hq : q < ν.n := by omega
   have ct := x.th.cell hq
   cases ht : T q with
   | true =>
    have HE : Hid (findC ν.n T (q : Int) = 0) := by unfold Hid findC;rw [if_neg (by omega),Int.toNat_natCast,ht,if_neg (by decide)]
    unfold tcell at ct
    rw [ht] at ct
    clear x ht
    go_enter Tryz.func93,Tryz.ntmps93
    go_wp2
    go_ret
    exact ⟨by rw [HE.out];rfl,rfl⟩
   | false =>
    have HE : Hid (findC ν.n T (q : Int) = 2) := by unfold Hid findC;rw [if_neg (by omega),Int.toNat_natCast,ht,if_pos rfl]
    unfold tcell at ct
    rw [ht] at ct
    clear x ht
    go_enter Tryz.func93,Tryz.ntmps93
    go_wp2
    go_ret
    exact ⟨by rw [HE.out];rfl,rfl⟩
  ·have HE : Hid (findC ν.n T p = 1) := if_pos (by omega)
   clear x
   go_enter Tryz.func93,Tryz.ntmps93
   go_wp2
   go_ret
   exact ⟨by rw [HE.out];rfl,rfl⟩
theorem frame_any (x : MAt w col ν S A L H T) (c h : Int) : Calls Tryz.prog 95 #[.pointer (some ⟨ν.r,0,none⟩),.int .i64 c,.int .i64 h] w fun e w' => e = .returned (.int .i64 (A.find (H.page c h))) ∧ Grow w w' := by
 have c1 := x.c1
 have c2 := x.c2
 have HP := hid (HdO.page_any x.drew.hand c h)
 have HF := hid (ArD.find_any x.drew.arena (H.page c h))
 clear x
 go_enter Tryz.func95,Tryz.ntmps95
 have u1 := up_cell (F := fun _ => False) (w := w.drew) (p := ⟨ν.r,1,none⟩) c1 id
 have u2 := up_cell (F := fun _ => False) (w := w.drew) (p := ⟨ν.r,2,none⟩) c2 id
 go_upto_region 1 with (fail)
 refine wp_region_stages Grow (kept_refl _) (kept_trans _) [([0,1,2,3,4,5,6,7,8,9],10),([],11)] [12] (by kernel_rfl) (by kernel_rfl) ?_
 simp only [selSt,sel,ZmC,ZmN,ZgS,ZgZ]
 refine st_cons fun K1 hK1 => ?_
 repeat (go_big_quiet_step (fail))
 refine wpQuiet_nil ?_
 go_wp2_with (go_at_call 152;(with_reducible refine HP.out.mono ?_);rintro e w1 ⟨rfl,rfl⟩)
 refine norm_up (hK1 _ _ (Kept.refl _ _) (st_cons fun K2 hK2 => wpQuiet_nil ?_))
 clear hK1 K1 u1 u2
 go_wp2_with (go_at_call 102;(with_reducible refine HF.out.mono ?_);rintro e w1 ⟨rfl,rfl⟩)
 refine norm_up (hK2 _ _ (Kept.refl _ _) (st_nil fun K4 hK4 => ?_))
 clear hK2 K2
 repeat (go_big_quiet_step (fail))
 refine wpQuiet_nil (hK4 _ ?_)
 clear hK4 K4
 go_wp2
 go_ret
 exact ⟨rfl,Kept.drew' w⟩
end
end RgA
namespace RfI
open MdM (Md MdOp Re)
open ArM (Ar Fr fFree fUsed)
open TabM (upd upd_same upd_other)
open Dev (Dv)
open RfM
structure InvE (p : Pl) (h : Option Nat) : Prop where
 gx : MdM.Good p.X
 ga : ArM.Good p.A
 nd : p.L.Nodup
 mem : ∀ f,f ∈ p.L ↔ f < p.A.n ∧ (p.A.F f).st = 1
 st : ∀ f,f < p.A.n → (p.A.F f).st = 0 ∨ (p.A.F f).st = 1
 n1 : 1 ≤ p.A.n
 dN : p.D.N = p.X.n
 dn : p.D.down = false
 pg : ∀ f,f < p.A.n → (p.A.F f).st = 1 → ∃ q,q < p.X.n ∧ (p.A.F f).pg = (q : Int)
 use : ∀ f q : Nat,f < p.A.n → (p.A.F f).st = 1 → (p.A.F f).pg = (q : Int) → h ≠ some q → p.X.T q = true ∧ (p.A.F f).pn = (p.X.pins (q : Int) : Int) ∧ p.A.B f = p.X.B q ∧ ((p.A.F f).di = false → says p.D q (p.X.B q))
 held : ∀ q : Nat,q < p.X.n → h ≠ some q → 0 < p.X.pins (q : Int) → ∃ f,f < p.A.n ∧ (p.A.F f).st = 1 ∧ (p.A.F f).pg = (q : Int)
 rest : ∀ q : Nat,q < p.X.n → h ≠ some q → p.X.T q = true → (∀ f,f < p.A.n → (p.A.F f).st = 1 → (p.A.F f).pg ≠ (q : Int)) → says p.D q (p.X.B q)
abbrev Inv (p : Pl) : Prop := InvE p none
theorem upd_id {α : Type} (f : Nat → α) (k : Nat) : upd f k (f k) = f := by
 funext i
 by_cases e : i = k
 ·rw [e,upd_same]
 ·rw [upd_other _ _ e]
section
variable {p : Pl} {h h' : Option Nat} {f q : Nat} {v : Fr} {b : List Int} {X' : Md} {D' : Dv} {L' t : List Nat}
theorem InvE.weaken (i : Inv p) (h : Option Nat) : InvE p h :=
 ⟨i.gx,i.ga,i.nd,i.mem,i.st,i.n1,i.dN,i.dn,i.pg,fun f q a b c _ => i.use f q a b c (by simp),fun q a _ => i.held q a (by simp),fun q a _ => i.rest q a (by simp)⟩
theorem InvE.q48 (i : InvE p h) (hq : q < p.X.n) : q < 48 := by have := i.gx.n.2;omega
theorem InvE.step (i : InvE p h) (hf : f < p.A.n) (hs : (p.A.F f).st = 1) (hp : (p.A.F f).pg = (q : Int)) (hv : v.st = 1) (hvp : v.pg = (q : Int)) (hpn : 0 ≤ v.pn ∧ v.pn ≤ 1000) (hb : b.length = 16)
  (gX : MdM.Good X') (hn : X'.n = p.X.n) (hT : ∀ r,r ≠ q → X'.T r = p.X.T r) (hB : ∀ r,r ≠ q → X'.B r = p.X.B r) (hP : ∀ r : Nat,r ≠ q → X'.pins (r : Int) = p.X.pins (r : Int))
  (hN : D'.N = p.D.N) (hdn : D'.down = false) (hcur : ∀ r,r ≠ q → Dev.cur D' r = Dev.cur p.D r) (hL : L'.Nodup) (hLm : ∀ x,x ∈ L' ↔ x ∈ p.L)
  (hh : ∀ r,r ≠ q → h' ≠ some r → h ≠ some r)
  (own : h' ≠ some q → X'.T q = true ∧ v.pn = (X'.pins (q : Int) : Int) ∧ b = X'.B q ∧ (v.di = false → says D' q (X'.B q))) :
  InvE ⟨X',D',⟨p.A.n,upd p.A.F f v,upd p.A.B f b,p.A.Q⟩,L'⟩ h' := by
 have hF : ∀ x,(upd p.A.F f v x).st = (p.A.F x).st ∧ (upd p.A.F f v x).pg = (p.A.F x).pg := fun x => by
  by_cases e : x = f
  ·subst e;rw [upd_same,hv,hvp,hs,hp];exact ⟨rfl,rfl⟩
  ·rw [upd_other _ _ e];exact ⟨rfl,rfl⟩
 have hb' : ∀ x,(upd p.A.B f b x).length = 16 := fun x => by
  by_cases e : x = f
  ·subst e;rw [upd_same];exact hb
  ·rw [upd_other _ _ e];exact i.ga.b x
 obtain ⟨q',hq',hpq⟩ := i.pg f hf hs
 obtain rfl : q' = q := by omega
 refine ⟨gX,i.ga.turn hf hs hv (by rw [hvp,hp]) hpn hb',hL,fun x => ?_,fun x hx => ?_,i.n1,by rw [hN,hn];exact i.dN,hdn,fun x hx hsx => ?_,fun x r hx hsx hpx hne => ?_,fun r hr hne hpos => ?_,fun r hr hne hTr hno => ?_⟩
 ·rw [hLm,i.mem]
  show _ ↔ x < p.A.n ∧ (upd p.A.F f v x).st = 1
  rw [(hF x).1]
 ·show (upd p.A.F f v x).st = 0 ∨ (upd p.A.F f v x).st = 1
  rw [(hF x).1];exact i.st x hx
 ·obtain ⟨r,hr,e⟩ := i.pg x hx (by rw [← (hF x).1];exact hsx)
  exact ⟨r,by rw [hn];exact hr,by show (upd p.A.F f v x).pg = _;rw [(hF x).2];exact e⟩
 ·change (upd p.A.F f v x).st = 1 at hsx
  change (upd p.A.F f v x).pg = (r : Int) at hpx
  rw [(hF x).1] at hsx
  rw [(hF x).2] at hpx
  show X'.T r = true ∧ (upd p.A.F f v x).pn = _ ∧ upd p.A.B f b x = X'.B r ∧ ((upd p.A.F f v x).di = false → says D' r (X'.B r))
  by_cases e : x = f
  ·subst e
   obtain rfl : r = q' := by omega
   rw [upd_same,upd_same]
   exact own hne
  ·have hrq : r ≠ q' := fun e2 => by subst e2;exact e (i.ga.uq x f hx hf hsx hs (by omega))
   rw [upd_other _ _ e,upd_other _ _ e,hT r hrq,hB r hrq,hP r hrq]
   obtain ⟨u1,u2,u3,u4⟩ := i.use x r hx hsx hpx (hh r hrq hne)
   exact ⟨u1,u2,u3,fun hd => says_of (u4 hd) (hcur r hrq)⟩
 ·by_cases e : r = q'
  ·subst e
   exact ⟨f,hf,by show (upd p.A.F f v f).st = 1;rw [(hF f).1];exact hs,by show (upd p.A.F f v f).pg = _;rw [(hF f).2];exact hp⟩
  ·change r < X'.n at hr
   change 0 < X'.pins (r : Int) at hpos
   rw [hP r e] at hpos
   obtain ⟨x,hx,sx,px⟩ := i.held r (by omega) (hh r e hne) hpos
   exact ⟨x,hx,by show (upd p.A.F f v x).st = 1;rw [(hF x).1];exact sx,by show (upd p.A.F f v x).pg = _;rw [(hF x).2];exact px⟩
 ·have hrq : r ≠ q' := fun e => by
   subst e
   exact hno f hf (by show (upd p.A.F f v f).st = 1;rw [(hF f).1];exact hs) (by show (upd p.A.F f v f).pg = _;rw [(hF f).2];exact hp)
  change r < X'.n at hr
  change X'.T r = true at hTr
  show says D' r (X'.B r)
  rw [hB r hrq]
  refine says_of (i.rest r (by omega) (hh r hrq hne) (by rw [← hT r hrq];exact hTr) fun x hx sx px => ?_) (hcur r hrq)
  exact hno x hx (by show (upd p.A.F f v x).st = 1;rw [(hF x).1];exact sx) (by show (upd p.A.F f v x).pg = _;rw [(hF x).2];exact px)
theorem InvE.same (i : InvE p h) (hN : D'.N = p.D.N) (hdn : D'.down = false) (hcur : ∀ r,Dev.cur D' r = Dev.cur p.D r) (hL : L'.Nodup) (hLm : ∀ x,x ∈ L' ↔ x ∈ p.L) : InvE ⟨p.X,D',p.A,L'⟩ h :=
 ⟨i.gx,i.ga,hL,fun x => (hLm x).trans (i.mem x),i.st,i.n1,hN.trans i.dN,hdn,i.pg,fun x r a b c e => by
  obtain ⟨u1,u2,u3,u4⟩ := i.use x r a b c e
  exact ⟨u1,u2,u3,fun hd => says_of (u4 hd) (hcur r)⟩,i.held,fun r a e c d => says_of (i.rest r a e c d) (hcur r)⟩
theorem InvE.free (i : InvE p h) (hf : f < p.A.n) (hs : (p.A.F f).st = 1) (hp : (p.A.F f).pg = (q : Int)) (hpn : (p.A.F f).pn = 0) (hd : h = some q ∨ (p.A.F f).di = false) :
  InvE ⟨p.X,p.D,p.A.dropF f,p.L.erase f⟩ h := by
 have hF0 : upd p.A.F f fFree f = fFree := upd_same _ _ _
 have hU : ∀ x,(upd p.A.F f fFree x).st = 1 → x ≠ f ∧ upd p.A.F f fFree x = p.A.F x := fun x hx => by
  by_cases e : x = f
  ·subst e;rw [upd_same] at hx;have : (0 : Int) = 1 := hx;omega
  ·exact ⟨e,upd_other _ _ e⟩
 obtain ⟨q',hq',hpq⟩ := i.pg f hf hs
 obtain rfl : q' = q := by omega
 refine ⟨i.gx,i.ga.release hf (by omega),i.nd.erase f,fun x => ?_,fun x hx => ?_,i.n1,i.dN,i.dn,fun x hx hsx => ?_,fun x r hx hsx hpx hne => ?_,fun r hr hne hpos => ?_,fun r hr hne hTr hno => ?_⟩
 ·show x ∈ p.L.erase f ↔ x < p.A.n ∧ (upd p.A.F f fFree x).st = 1
  rw [i.nd.mem_erase_iff,i.mem]
  constructor
  ·rintro ⟨h1,h2,h3⟩
   exact ⟨h2,by rw [upd_other _ _ h1];exact h3⟩
  ·rintro ⟨h1,h2⟩
   obtain ⟨h3,h4⟩ := hU x h2
   rw [h4] at h2
   exact ⟨h3,h1,h2⟩
 ·show (upd p.A.F f fFree x).st = 0 ∨ (upd p.A.F f fFree x).st = 1
  by_cases e : x = f
  ·subst e;rw [upd_same];exact .inl rfl
  ·rw [upd_other _ _ e];exact i.st x hx
 ·obtain ⟨h3,h4⟩ := hU x hsx
  show ∃ r,_ ∧ (upd p.A.F f fFree x).pg = _
  change (upd p.A.F f fFree x).st = 1 at hsx
  rw [h4] at hsx ⊢
  exact i.pg x hx hsx
 ·obtain ⟨h3,h4⟩ := hU x hsx
  change (upd p.A.F f fFree x).st = 1 at hsx
  change (upd p.A.F f fFree x).pg = (r : Int) at hpx
  show _ ∧ (upd p.A.F f fFree x).pn = _ ∧ _ ∧ ((upd p.A.F f fFree x).di = false → _)
  rw [h4] at hsx hpx ⊢
  exact i.use x r hx hsx hpx hne
 ·by_cases e : r = q'
  ·subst e
   obtain ⟨_,u2,_⟩ := i.use f r hf hs hp hne
   change 0 < p.X.pins (r : Int) at hpos
   omega
  ·obtain ⟨x,hx,sx,px⟩ := i.held r hr hne hpos
   have hne2 : x ≠ f := fun e2 => by subst e2;exact e (by omega)
   refine ⟨x,hx,?_,?_⟩
   ·show (upd p.A.F f fFree x).st = 1
    rw [upd_other _ _ hne2];exact sx
   ·show (upd p.A.F f fFree x).pg = _
    rw [upd_other _ _ hne2];exact px
 ·by_cases e : r = q'
  ·subst e
   obtain ⟨_,_,_,u4⟩ := i.use f r hf hs hp hne
   rcases hd with hd | hd
   ·exact absurd hd hne
   ·exact u4 hd
  ·refine i.rest r hr hne hTr fun x hx sx px => ?_
   have hne2 : x ≠ f := fun e2 => by subst e2;exact e (by omega)
   exact hno x hx (by show (upd p.A.F f fFree x).st = 1;rw [upd_other _ _ hne2];exact sx) (by show (upd p.A.F f fFree x).pg = _;rw [upd_other _ _ hne2];exact px)
theorem InvE.taken (i : Inv p) (hq : q < p.X.n) (hno : ∀ x,x < p.A.n → (p.A.F x).st = 1 → (p.A.F x).pg ≠ (q : Int)) (hQ : p.A.Q = f :: t) :
  InvE ⟨p.X,p.D,⟨p.A.n,upd p.A.F f (fUsed (q : Int)),upd p.A.B f ArM.zeros,t⟩,f :: p.L⟩ (some q) ∧ f < p.A.n ∧ (p.A.F f).st = 0 ∧ p.A.can (q : Int) = true := by
 have hc : p.A.can (q : Int) = true := by
  have h48 := i.q48 hq
  unfold Ar.can
  rw [ArM.find_none hno]
  simp only [Bool.and_eq_true,decide_eq_true_eq]
  omega
 obtain ⟨h1,h2,h3,h4⟩ := i.ga.head hQ
 have hfL : f ∉ p.L := fun hm => by have := ((i.mem f).1 hm).2;omega
 have hO : ∀ x,x ≠ f → upd p.A.F f (fUsed (q : Int)) x = p.A.F x := fun x e => upd_other _ _ e
 have hE : upd p.A.F f (fUsed (q : Int)) f = fUsed (q : Int) := upd_same _ _ _
 refine ⟨⟨i.gx,i.ga.takeF hc hQ,List.nodup_cons.2 ⟨hfL,i.nd⟩,fun x => ?_,fun x hx => ?_,i.n1,i.dN,i.dn,fun x hx hsx => ?_,fun x r hx hsx hpx hne => ?_,fun r hr hne hpos => ?_,fun r hr hne hTr hn => ?_⟩,h1,h2,hc⟩
 ·show x ∈ f :: p.L ↔ x < p.A.n ∧ (upd p.A.F f (fUsed (q : Int)) x).st = 1
  rw [List.mem_cons,i.mem]
  by_cases e : x = f
  ·subst e;rw [hE];exact ⟨fun _ => ⟨h1,rfl⟩,fun _ => .inl rfl⟩
  ·rw [hO x e];simp [e]
 ·show (upd p.A.F f (fUsed (q : Int)) x).st = 0 ∨ (upd p.A.F f (fUsed (q : Int)) x).st = 1
  by_cases e : x = f
  ·subst e;rw [hE];exact .inr rfl
  ·rw [hO x e];exact i.st x hx
 ·show ∃ r,_ ∧ (upd p.A.F f (fUsed (q : Int)) x).pg = _
  change (upd p.A.F f (fUsed (q : Int)) x).st = 1 at hsx
  by_cases e : x = f
  ·subst e;rw [hE];exact ⟨q,hq,rfl⟩
  ·rw [hO x e] at hsx ⊢;exact i.pg x hx hsx
 ·change (upd p.A.F f (fUsed (q : Int)) x).st = 1 at hsx
  change (upd p.A.F f (fUsed (q : Int)) x).pg = (r : Int) at hpx
  show _ ∧ (upd p.A.F f (fUsed (q : Int)) x).pn = _ ∧ upd p.A.B f ArM.zeros x = _ ∧ ((upd p.A.F f (fUsed (q : Int)) x).di = false → _)
  by_cases e : x = f
  ·subst e
   rw [hE] at hpx
   have : (q : Int) = (r : Int) := hpx
   exact absurd (by congr 1;omega) hne
  ·rw [hO x e] at hsx hpx ⊢
   rw [upd_other _ _ e]
   exact i.use x r hx hsx hpx (by simp)
 ·obtain ⟨x,hx,sx,px⟩ := i.held r hr (by simp) hpos
  have e : x ≠ f := fun e => by subst e;omega
  exact ⟨x,hx,by show (upd p.A.F f (fUsed (q : Int)) x).st = 1;rw [hO x e];exact sx,by show (upd p.A.F f (fUsed (q : Int)) x).pg = _;rw [hO x e];exact px⟩
 ·refine i.rest r hr (by simp) hTr fun x hx sx px => ?_
  have e : x ≠ f := fun e => by subst e;omega
  exact hn x hx (by show (upd p.A.F f (fUsed (q : Int)) x).st = 1;rw [hO x e];exact sx) (by show (upd p.A.F f (fUsed (q : Int)) x).pg = _;rw [hO x e];exact px)
theorem InvE.close (i : InvE p (some q)) (hno : ∀ x,x < p.A.n → (p.A.F x).st = 1 → (p.A.F x).pg ≠ (q : Int)) (gX : MdM.Good X') (hn : X'.n = p.X.n) (hT : ∀ r,r ≠ q → X'.T r = p.X.T r) (hB : ∀ r,r ≠ q → X'.B r = p.X.B r) (hP : ∀ r : Nat,X'.pins (r : Int) = p.X.pins (r : Int)) (h0 : p.X.pins (q : Int) = 0)
  (own : X'.T q = true → says p.D q (X'.B q)) : Inv ⟨X',p.D,p.A,p.L⟩ := by
 refine ⟨gX,i.ga,i.nd,i.mem,i.st,i.n1,i.dN.trans hn.symm,i.dn,fun x hx hsx => ?_,fun x r hx hsx hpx _ => ?_,fun r hr _ hpos => ?_,fun r hr _ hTr hn' => ?_⟩
 ·obtain ⟨r,hr,e⟩ := i.pg x hx hsx
  exact ⟨r,by rw [hn];exact hr,e⟩
 ·have e : r ≠ q := fun e => by subst e;exact hno x hx hsx hpx
  show X'.T r = true ∧ _ = (X'.pins (r : Int) : Int) ∧ _ = X'.B r ∧ (_ → says p.D r (X'.B r))
  rw [hT r e,hB r e,hP r]
  exact i.use x r hx hsx hpx fun e2 => e (by injection e2 with e2;exact e2.symm)
 ·change r < X'.n at hr
  change 0 < X'.pins (r : Int) at hpos
  rw [hP r] at hpos
  have e : r ≠ q := fun e => by subst e;omega
  exact i.held r (by omega) (fun e2 => e (by injection e2 with e2;exact e2.symm)) hpos
 ·change r < X'.n at hr
  change X'.T r = true at hTr
  show says p.D r (X'.B r)
  by_cases e : r = q
  ·subst e;exact own hTr
  ·rw [hB r e]
   exact i.rest r (by omega) (fun e2 => e (by injection e2 with e2;exact e2.symm)) (by rw [← hT r e];exact hTr) hn'
end
end RfI
namespace RfR
open MdM (Md MdOp Re)
open ArM (Ar Fr fFree fUsed)
open TabM (upd upd_same upd_other)
open Dev (Dv)
open RfM RfI
structure Go (p p' : Pl) : Prop where
 X : p'.X = p.X
 n : p'.A.n = p.A.n
 bad : p.D.bad = 0 → p'.D.bad = 0
theorem Go.refl (p : Pl) : Go p p := ⟨rfl,rfl,id⟩
theorem Go.trans {a b c : Pl} (h : Go a b) (k : Go b c) : Go a c := ⟨k.X.trans h.X,k.n.trans h.n,fun e => k.bad (h.bad e)⟩
section
variable {p : Pl} {h : Option Nat} {f q v : Nat} {t : List Nat}
theorem acc_zero {D : Dv} (h : D.bad = 0) : (Dev.accS D).bad = 0 := by unfold Dev.accS;split <;> simp [h]
theorem write_zero {D : Dv} (x : Int) (z : List Int) (h : D.bad = 0) : (Dev.writeS D x z).bad = 0 := by
 unfold Dev.writeS
 split
 ·split
  ·exact acc_zero h
  ·exact acc_zero h
 ·exact h
theorem read_zero {D : Dv} (x : Int) (h : D.bad = 0) : (Dev.readS D x).bad = 0 := by
 unfold Dev.readS
 split
 ·exact acc_zero h
 ·exact h
theorem sync_zero {D : Dv} (h : D.bad = 0) : (Dev.syncS D).bad = 0 := by
 unfold Dev.syncS
 split
 ·exact acc_zero h
 ·exact acc_zero h
theorem used_nat (_ : InvE p h) (hf : f < p.A.n) (hs : (p.A.F f).st = 1) : p.A.used (f : Int) = true := ArM.used_iff.2 ⟨f,rfl,hf,hs⟩
theorem wr_spec (i : InvE p h) (hf : f < p.A.n) (hs : (p.A.F f).st = 1) (hp : (p.A.F f).pg = (q : Int)) (hne : h ≠ some q) :
  Go p (p.wr f) ∧ InvE (p.wr f) h ∧ (p.wr f).L = p.L ∧ (p.wr f).A.Q = p.A.Q ∧ (∀ r,r ≠ q → Dev.cur (p.wr f).D r = Dev.cur p.D r) ∧
  ((p.wrC f = 0 ∧ (p.wr f).A.F = upd p.A.F f ⟨1,(q : Int),(p.A.F f).pn,false⟩ ∧ (p.wr f).A.B = p.A.B) ∨ (p.wrC f = 9 ∧ p.D.bad = 1 ∧ (p.wr f).A = p.A)) := by
 obtain ⟨u1,u2,u3,u4⟩ := i.use f q hf hs hp hne
 obtain ⟨q',hq',hpq⟩ := i.pg f hf hs
 obtain rfl : q' = q := by omega
 have hlen : (p.A.B f).length = 16 := i.ga.b f
 have h48 := i.q48 hq'
 have himg : p.img f = PageM.sealI (q' : Int) (p.A.B f) := by unfold Pl.img;rw [hp];exact seal_ok h48 hlen
 have hil : (p.img f).length = 24 := by rw [himg,PageM.seal_len,hlen]
 have hqN : q' < p.D.N := by rw [i.dN];exact hq'
 have hwc : p.wrC f = Dev.accC p.D := by unfold Pl.wrC;rw [hp];exact write_code hqN hil
 have hD : (p.wr f).D = Dev.writeS p.D (q' : Int) (p.img f) := by unfold Pl.wr;rw [hp]
 have hNd := write_N p.D (q' : Int) (p.img f)
 rcases acc_cases i.dn with ⟨hc,hb⟩ | ⟨hc,hb⟩
 ·have hw0 : p.wrC f = 0 := by rw [hwc,hc]
  have hA : (p.wr f).A = ⟨p.A.n,upd p.A.F f ⟨1,(q' : Int),(p.A.F f).pn,false⟩,p.A.B,p.A.Q⟩ := by
   unfold Pl.wr
   dsimp only
   rw [if_pos hw0]
   unfold Ar.mark
   rw [if_pos (used_nat i hf hs),Int.toNat_natCast]
   unfold Ar.turn
   rw [hs,hp]
  have hpn := (i.ga.use f hf hs).2.2
  have hi : InvE (p.wr f) h := by
   have key := i.step (v := ⟨1,(q' : Int),(p.A.F f).pn,false⟩) (b := p.A.B f) (X' := p.X) (D' := Dev.writeS p.D (q' : Int) (p.img f)) (L' := p.L) (h' := h) hf hs hp rfl rfl hpn hlen i.gx rfl (fun _ _ => rfl) (fun _ _ => rfl) (fun _ _ => rfl) hNd.1 (by rw [hNd.2];exact i.dn)
    (fun r hr => by rw [cur_write hqN hil hc,if_neg hr]) i.nd (fun _ => Iff.rfl) (fun _ _ x => x)
    (fun _ => ⟨u1,u2,u3,fun _ => by
      rw [← u3]
      exact says_seal h48 hlen (by rw [cur_write hqN hil hc,if_pos rfl,himg])⟩)
   rw [upd_id] at key
   have e : p.wr f = ⟨p.X,Dev.writeS p.D (q' : Int) (p.img f),⟨p.A.n,upd p.A.F f ⟨1,(q' : Int),(p.A.F f).pn,false⟩,p.A.B,p.A.Q⟩,p.L⟩ := by
    rw [← hA,← hD]
    rfl
   rw [e]
   exact key
  refine ⟨⟨rfl,by rw [hA],fun e => by rw [hD];exact write_zero _ _ e⟩,hi,rfl,by rw [hA],fun r hr => by rw [hD,cur_write hqN hil hc,if_neg hr],.inl ⟨hw0,by rw [hA],by rw [hA]⟩⟩
 ·have hw9 : p.wrC f = 9 := by rw [hwc,hc]
  have hA : (p.wr f).A = p.A := by
   unfold Pl.wr
   dsimp only
   rw [if_neg (by rw [hw9];decide)]
  have hDf : (p.wr f).D = Dev.accS p.D := by rw [hD];exact cur_fail hqN hil (by rw [hc];decide)
  have e : p.wr f = ⟨p.X,Dev.accS p.D,p.A,p.L⟩ := by
   rw [← hA,← hDf]
   rfl
  refine ⟨⟨rfl,by rw [hA],fun e => by omega⟩,?_,rfl,by rw [hA],fun r _ => by rw [hDf];exact cur_acc _ _,.inr ⟨hw9,hb,hA⟩⟩
  rw [e]
  exact i.same (acc_N _) (by rw [acc_down];exact i.dn) (fun r => cur_acc _ r) i.nd fun _ => Iff.rfl
theorem out_mem {L : List Nat} (h : f ∈ L) : ListM.okO L (f : Int) = true ∧ ListM.outL L (f : Int) = L.erase f := by
 have e : ListM.okO L (f : Int) = true := by
  unfold ListM.okO
  simp [h]
 refine ⟨e,?_⟩
 unfold ListM.outL
 rw [if_pos e,Int.toNat_natCast]
theorem front_new {L : List Nat} (h : f ∉ L) (h32 : f < 32) : ListM.frontL 32 L (f : Int) = f :: L := by
 unfold ListM.frontL ListM.okF
 rw [if_pos,Int.toNat_natCast]
 simp [h]
 omega
theorem drop_spec (i : InvE p h) (hf : f < p.A.n) (hs : (p.A.F f).st = 1) (hp : (p.A.F f).pg = (q : Int)) (hpn : (p.A.F f).pn = 0) (hd : h = some q ∨ (p.A.F f).di = false) :
  Go p (p.drop f) ∧ InvE (p.drop f) h ∧ (p.drop f).D = p.D ∧ (p.drop f).A.Q = p.A.Q ++ [f] ∧ (p.drop f).A.F = upd p.A.F f fFree := by
 have hA : p.A.drop (f : Int) = p.A.dropF f := by
  unfold Ar.drop Ar.dropC
  rw [if_pos (used_nat i hf hs),Int.toNat_natCast,hpn]
  rfl
 have e : p.drop f = ⟨p.X,p.D,p.A.dropF f,p.L.erase f⟩ := by
  unfold Pl.drop
  rw [hA,(out_mem ((i.mem f).2 ⟨hf,hs⟩)).2]
 rw [e]
 exact ⟨⟨rfl,rfl,id⟩,i.free hf hs hp hpn hd,rfl,rfl,rfl⟩
theorem take_spec (i : Inv p) (hq : q < p.X.n) (hno : ∀ x,x < p.A.n → (p.A.F x).st = 1 → (p.A.F x).pg ≠ (q : Int)) (hQ : p.A.Q = f :: t) :
  ∃ p',p.take (q : Int) = (((f : Int),0),p') ∧ Go p p' ∧ InvE p' (some q) ∧ p'.D = p.D ∧ f < p'.A.n ∧ p'.A.F f = fUsed (q : Int) ∧ p'.A.B f = MdM.zeros ∧ f ∈ p'.L := by
 obtain ⟨h1,h2,h3,h4⟩ := i.taken hq hno hQ
 have hc : p.A.takeC (q : Int) = (f : Int) := by
  unfold Ar.takeC
  rw [if_pos h4,hQ]
  rfl
 have hA : p.A.take (q : Int) = ⟨p.A.n,upd p.A.F f (fUsed (q : Int)),upd p.A.B f ArM.zeros,t⟩ := by
  unfold Ar.take
  rw [if_pos h4,hQ]
  rfl
 have hL : f ∉ p.L := fun hm => by have := ((i.mem f).1 hm).2;omega
 have hF : ListM.frontL 32 p.L (f : Int) = f :: p.L := front_new hL (by have := i.ga.n;omega)
 refine ⟨⟨p.X,p.D,⟨p.A.n,upd p.A.F f (fUsed (q : Int)),upd p.A.B f ArM.zeros,t⟩,f :: p.L⟩,?_,⟨rfl,rfl,id⟩,h1,rfl,h2,upd_same _ _ _,upd_same _ _ _,List.mem_cons_self⟩
 unfold Pl.take
 rw [hc,hA,hF]
theorem vic_some (h : p.vic = some v) : v ∈ p.L ∧ (p.A.F v).pn = 0 := by
 unfold Pl.vic at h
 have := List.mem_of_getLast? h
 rw [List.mem_filter] at this
 exact ⟨this.1,of_decide_eq_true this.2⟩
theorem vic_none (h : p.vic = none) : ∀ f ∈ p.L,(p.A.F f).pn ≠ 0 := fun f hf e => by
 unfold Pl.vic at h
 rw [List.getLast?_eq_none_iff] at h
 have : f ∈ p.L.filter fun f => decide ((p.A.F f).pn = 0) := List.mem_filter.2 ⟨hf,decide_eq_true e⟩
 rw [h] at this
 cases this
def Full (p : Pl) : Prop := ∀ f,f < p.A.n → (p.A.F f).st = 1 ∧ 0 < (p.A.F f).pn
def RoomP (p : Pl) (q : Nat) (x : (Int × Int) × Pl) : Prop :=
 (∃ (f : Nat) (p' : Pl),x = (((f : Int),0),p') ∧ Go p p' ∧ InvE p' (some q) ∧ Dev.cur p'.D q = Dev.cur p.D q ∧ f < p'.A.n ∧ p'.A.F f = fUsed (q : Int) ∧ p'.A.B f = MdM.zeros ∧ ¬ Full p)
 ∨ (x = ((-1,8),p) ∧ Full p)
 ∨ (∃ p',x = ((-1,9),p') ∧ Go p p' ∧ Inv p' ∧ p.D.bad = 1 ∧ ¬ Full p)
theorem not_full (hf : f < p.A.n) (h : (p.A.F f).st = 0 ∨ (p.A.F f).pn = 0) : ¬ Full p := fun H => by have := H f hf;omega
theorem room_spec (i : Inv p) (hq : q < p.X.n) (hno : ∀ x,x < p.A.n → (p.A.F x).st = 1 → (p.A.F x).pg ≠ (q : Int)) : RoomP p q (p.room (q : Int)) := by
 unfold Pl.room
 by_cases hQ : p.A.Q = []
 ·rw [if_pos hQ]
  have hall : ∀ x,x < p.A.n → (p.A.F x).st = 1 := fun x hx => by
   rcases i.st x hx with e | e
   ·have := (i.ga.q x).2 ⟨hx,e⟩
    rw [hQ] at this
    cases this
   ·exact e
  cases hv : p.vic with
  | none =>
   dsimp only
   refine .inr (.inl ⟨rfl,fun f hf => ⟨hall f hf,?_⟩⟩)
   have h1 := vic_none hv f ((i.mem f).2 ⟨hf,hall f hf⟩)
   have h2 := (i.ga.use f hf (hall f hf)).2.2.1
   omega
  | some v =>
   dsimp only
   obtain ⟨hvL,hv0⟩ := vic_some hv
   obtain ⟨hvn,hvs⟩ := (i.mem v).1 hvL
   obtain ⟨r,hr,hpr⟩ := i.pg v hvn hvs
   have hrq : r ≠ q := fun e => by subst e;exact hno v hvn hvs hpr
   have hNF : ¬ Full p := not_full hvn (.inr hv0)
   have done : ∀ p1 : Pl,Go p p1 → Inv p1 → (p1.A.F v).st = 1 → (p1.A.F v).pg = (r : Int) → (p1.A.F v).pn = 0 → (p1.A.F v).di = false → (∀ x,x < p1.A.n → (p1.A.F x).st = 1 → (p1.A.F x).pg ≠ (q : Int)) → p1.A.Q = [] → Dev.cur p1.D q = Dev.cur p.D q → RoomP p q ((p1.drop v).take (q : Int)) := by
    intro p1 g1 i1 s1 q1 n1 d1 no1 Q1 c1
    obtain ⟨g2,i2,D2,Q2,F2⟩ := drop_spec i1 (by rw [g1.n];exact hvn) s1 q1 n1 (.inr d1)
    have no2 : ∀ x,x < (p1.drop v).A.n → ((p1.drop v).A.F x).st = 1 → ((p1.drop v).A.F x).pg ≠ (q : Int) := fun x hx sx => by
     rw [F2] at sx ⊢
     by_cases e : x = v
     ·subst e;rw [upd_same] at sx;have : (0 : Int) = 1 := sx;omega
     ·rw [upd_other _ _ e] at sx ⊢
      exact no1 x (by rw [g2.n] at hx;exact hx) sx
    rw [Q1] at Q2
    obtain ⟨p',e,g3,i3,D3,h1,h2,h3,_⟩ := take_spec i2 (by rw [g2.X,g1.X];exact hq) no2 Q2
    refine .inl ⟨v,p',e,(g1.trans g2).trans g3,i3,?_,h1,h2,h3,hNF⟩
    rw [D3,D2,c1]
   unfold Pl.evict
   by_cases hd : (p.A.F v).di = true
   ·rw [if_pos hd]
    obtain ⟨g1,i1,hL1,hQ1,hc1,hcase⟩ := wr_spec i hvn hvs hpr (by simp)
    rcases hcase with ⟨hw,hF,hB⟩ | ⟨hw,hb,hA⟩
    ·rw [if_pos hw]
     refine done (p.wr v) g1 i1 ?_ ?_ ?_ ?_ ?_ (by rw [hQ1,hQ]) (hc1 q fun e => hrq e.symm)
     ·rw [hF,upd_same]
     ·rw [hF,upd_same]
     ·rw [hF,upd_same];exact hv0
     ·rw [hF,upd_same]
     ·intro x hx sx
      rw [hF] at sx ⊢
      by_cases e : x = v
      ·subst e;rw [upd_same];show (r : Int) ≠ q;omega
      ·rw [upd_other _ _ e] at sx ⊢
       exact hno x (by rw [g1.n] at hx;exact hx) sx
    ·rw [if_neg (by rw [hw];decide),hw]
     exact .inr (.inr ⟨p.wr v,rfl,g1,i1,hb,hNF⟩)
   ·rw [if_neg hd]
    exact done p (Go.refl p) i hvs hpr hv0 (by simpa using hd) hno hQ rfl
 ·rw [if_neg hQ]
  cases e : p.A.Q with
  | nil => exact absurd e hQ
  | cons f t =>
   obtain ⟨p',e1,g,i',D',h1,h2,h3,_⟩ := take_spec i hq hno e
   obtain ⟨a1,a2,_,_⟩ := i.ga.head e
   exact .inl ⟨f,p',e1,g,i',by rw [D'],h1,h2,h3,not_full a1 (.inl a2)⟩
end
end RfR
namespace RfF
open MdM (Md MdOp Re)
open ArM (Ar Fr fFree fUsed)
open TabM (upd upd_same upd_other)
open Dev (Dv)
open RfM RfI RfR
section
variable {p : Pl} {h : Option Nat} {f q v : Nat}
theorem front_list (i : InvE p h) (hf : f < p.A.n) (hs : (p.A.F f).st = 1) : p.front (f : Int) = ⟨p.X,p.D,p.A,f :: p.L.erase f⟩ ∧ (f :: p.L.erase f).Nodup ∧ ∀ x,x ∈ f :: p.L.erase f ↔ x ∈ p.L := by
 have hm := (i.mem f).2 ⟨hf,hs⟩
 obtain ⟨h1,h2⟩ := out_mem hm
 have hne : f ∉ p.L.erase f := fun hx => (i.nd.mem_erase_iff.1 hx).1 rfl
 refine ⟨?_,List.nodup_cons.2 ⟨hne,i.nd.erase f⟩,fun x => ?_⟩
 ·unfold Pl.front
  rw [if_pos h1,h2,front_new hne (by have := i.ga.n;omega)]
 ·rw [List.mem_cons,i.nd.mem_erase_iff]
  by_cases e : x = f
  ·subst e;simp [hm]
  ·simp [e]
theorem front_spec (i : InvE p h) (hf : f < p.A.n) (hs : (p.A.F f).st = 1) : Go p (p.front (f : Int)) ∧ InvE (p.front (f : Int)) h ∧ (p.front (f : Int)).A = p.A ∧ (p.front (f : Int)).D = p.D := by
 obtain ⟨e,h1,h2⟩ := front_list i hf hs
 rw [e]
 exact ⟨⟨rfl,rfl,id⟩,i.same rfl i.dn (fun _ => rfl) h1 h2,rfl,rfl⟩
theorem load_spec (i : InvE p (some q)) (hq : q < p.X.n) (hf : f < p.A.n) (hF : p.A.F f = fUsed (q : Int)) (hT : p.X.T q = true) (hP : p.X.pins (q : Int) = 0) (hsay : says p.D q (p.X.B q)) :
  (∃ p',p.load (q : Int) f = (((f : Int),0),p') ∧ Go p p' ∧ Inv p' ∧ f < p'.A.n ∧ (p'.A.F f).st = 1 ∧ (p'.A.F f).pg = (q : Int)) ∨ (∃ p',p.load (q : Int) f = ((-1,9),p') ∧ Go p p' ∧ Inv p' ∧ p.D.bad = 1) := by
 have hs : (p.A.F f).st = 1 := by rw [hF];rfl
 have hp : (p.A.F f).pg = (q : Int) := by rw [hF];rfl
 have hpn : (p.A.F f).pn = 0 := by rw [hF];rfl
 have hqN : q < p.D.N := by rw [i.dN];exact hq
 have hrc : Dev.readC p.D (q : Int) = Dev.accC p.D := by unfold Dev.readC;rw [has_nat hqN];rfl
 have hND := read_N p.D (q : Int)
 have hbz : p.D.bad = 0 → (Dev.readS p.D (q : Int)).bad = 0 := read_zero _
 have i2 : InvE ⟨p.X,Dev.readS p.D (q : Int),p.A,p.L⟩ (some q) := i.same hND.1 (by rw [hND.2];exact i.dn) (fun r => cur_read _ _ r) i.nd fun _ => Iff.rfl
 unfold Pl.load
 rcases acc_cases i.dn with ⟨hc,hb⟩ | ⟨hc,hb⟩
 ·have hr0 : Dev.readC p.D (q : Int) = 0 := by rw [hrc,hc]
  rw [if_neg (by rw [hr0];decide)]
  have hbody : Dev.readB p.D (q : Int) = Dev.cur p.D q := by unfold Dev.readB;rw [if_pos hr0,Int.toNat_natCast]
  rw [hbody]
  left
  obtain ⟨ho,hbd⟩ := hsay
  rw [if_pos ho]
  refine ⟨_,rfl,⟨rfl,rfl,hbz⟩,?_,hf,hs,hp⟩
  have key := i2.step (v := fUsed (q : Int)) (b := PageM.openB (q : Int) (Dev.cur p.D q)) (X' := p.X) (D' := Dev.readS p.D (q : Int)) (L' := p.L) (h' := none) hf hs hp rfl rfl ⟨Int.le_refl _,show (0 : Int) ≤ 1000 by decide⟩ (by rw [hbd];exact i.gx.len q) i.gx rfl (fun _ _ => rfl) (fun _ _ => rfl) (fun _ _ => rfl) rfl (by rw [hND.2];exact i.dn) (fun _ _ => rfl) i.nd (fun _ => Iff.rfl)
   (fun r hr _ e => hr (by injection e with e;exact e.symm)) (fun _ => ⟨hT,by rw [hP];rfl,hbd,fun _ => says_of (b := p.X.B q) ⟨ho,hbd⟩ (cur_read _ _ q)⟩)
  have e : upd p.A.F f (fUsed (q : Int)) = p.A.F := by rw [← hF];exact upd_id _ _
  dsimp only at key
  rw [e] at key
  exact key
 ·have hr9 : Dev.readC p.D (q : Int) = 9 := by rw [hrc,hc]
  rw [if_pos (by rw [hr9];decide),hr9]
  right
  obtain ⟨g3,i3,D3,Q3,F3⟩ := drop_spec i2 hf hs hp hpn (.inl rfl)
  refine ⟨_,rfl,⟨g3.X,g3.n,fun e => by omega⟩,?_,hb⟩
  have hno : ∀ x,x < ((⟨p.X,Dev.readS p.D (q : Int),p.A,p.L⟩ : Pl).drop f).A.n → (((⟨p.X,Dev.readS p.D (q : Int),p.A,p.L⟩ : Pl).drop f).A.F x).st = 1 → (((⟨p.X,Dev.readS p.D (q : Int),p.A,p.L⟩ : Pl).drop f).A.F x).pg ≠ (q : Int) := fun x hx sx px => by
   rw [F3] at sx px
   by_cases e : x = f
   ·subst e;rw [upd_same] at sx;have : (0 : Int) = 1 := sx;omega
   ·rw [upd_other _ _ e] at sx px
    rw [g3.n] at hx
    have px : (p.A.F x).pg = (q : Int) := px
    exact e (i.ga.uq x f hx hf sx hs (by omega))
  exact i3.close (X' := p.X) hno i.gx rfl (fun _ _ => rfl) (fun _ _ => rfl) (fun _ => rfl) hP fun _ => by
   rw [D3]
   exact says_of hsay (cur_read _ _ q)
def FetchP (p : Pl) (q : Nat) (x : (Int × Int) × Pl) : Prop :=
 (∃ (f : Nat) (p' : Pl),x = (((f : Int),0),p') ∧ Go p p' ∧ Inv p' ∧ f < p'.A.n ∧ (p'.A.F f).st = 1 ∧ (p'.A.F f).pg = (q : Int) ∧ ((∃ g,g < p.A.n ∧ (p.A.F g).st = 1 ∧ (p.A.F g).pg = (q : Int)) ∨ ¬ Full p))
 ∨ (x = ((-1,8),p) ∧ Full p ∧ ∀ g,g < p.A.n → (p.A.F g).st = 1 → (p.A.F g).pg ≠ (q : Int))
 ∨ (∃ p',x = ((-1,9),p') ∧ Go p p' ∧ Inv p' ∧ p.D.bad ≠ 0)
theorem pins_out (i : Inv p) (hq : q < p.X.n) (hno : ∀ x,x < p.A.n → (p.A.F x).st = 1 → (p.A.F x).pg ≠ (q : Int)) : p.X.pins (q : Int) = 0 := by
 rcases Nat.eq_zero_or_pos (p.X.pins (q : Int)) with e | e
 ·exact e
 ·obtain ⟨x,hx,sx,px⟩ := i.held q hq (by simp) e
  exact absurd px (hno x hx sx)
theorem fetch_spec (i : Inv p) (hq : q < p.X.n) (hT : p.X.T q = true) : FetchP p q (p.fetch (q : Int)) := by
 unfold Pl.fetch
 rcases ArM.find_cases p.A (q : Int) with ⟨e,hno⟩ | ⟨f,hf,hs,hp,e⟩
 ·rw [e,if_neg (by decide)]
  have hP := pins_out i hq hno
  have hsay := i.rest q hq (by simp) hT hno
  rcases room_spec i hq hno with ⟨f,p',e1,g1,i1,c1,hf,hF,_,hnf⟩ | ⟨e1,hfull⟩ | ⟨p',e1,g1,i1,hb,_⟩
  ·rw [e1]
   dsimp only
   rw [if_neg (by decide),Int.toNat_natCast]
   rcases load_spec i1 (by rw [g1.X];exact hq) hf hF (by rw [g1.X];exact hT) (by rw [g1.X];exact hP) (by rw [g1.X];exact says_of hsay c1) with ⟨p2,e2,g2,i2,h1,h2,h3⟩ | ⟨p2,e2,g2,i2,hb⟩
   ·exact .inl ⟨f,p2,e2,g1.trans g2,i2,h1,h2,h3,.inr hnf⟩
   ·exact .inr (.inr ⟨p2,e2,g1.trans g2,i2,fun e0 => by have := g1.bad e0;omega⟩)
  ·rw [e1]
   dsimp only
   rw [if_pos (by decide)]
   exact .inr (.inl ⟨rfl,hfull,hno⟩)
  ·rw [e1]
   dsimp only
   rw [if_pos (by decide)]
   exact .inr (.inr ⟨p',rfl,g1,i1,by omega⟩)
 ·rw [e,if_pos (by omega)]
  obtain ⟨g1,i1,hA,hD⟩ := front_spec i hf hs
  exact .inl ⟨f,_,rfl,g1,i1,by rw [hA];exact hf,by rw [hA];exact hs,by rw [hA];exact hp,.inl ⟨f,hf,hs,hp⟩⟩
theorem flush_spec (i : Inv p) (q : Nat) : Go p (p.flush (q : Int)).2 ∧ Inv (p.flush (q : Int)).2 ∧ (p.flush (q : Int)).2.L = p.L ∧ (∀ x,((p.flush (q : Int)).2.A.F x).st = (p.A.F x).st ∧ ((p.flush (q : Int)).2.A.F x).pg = (p.A.F x).pg ∧ ((p.A.F x).di = false → ((p.flush (q : Int)).2.A.F x).di = false)) ∧
  (((p.flush (q : Int)).1 = 0 ∧ ∀ x,x < p.A.n → (p.A.F x).st = 1 → (p.A.F x).pg = (q : Int) → ((p.flush (q : Int)).2.A.F x).di = false) ∨ ((p.flush (q : Int)).1 = 9 ∧ p.D.bad = 1)) := by
 unfold Pl.flush
 rcases ArM.find_cases p.A (q : Int) with ⟨e,hno⟩ | ⟨f,hf,hs,hp,e⟩
 ·rw [e,if_neg (by omega)]
  exact ⟨Go.refl p,i,rfl,fun x => ⟨rfl,rfl,id⟩,.inl ⟨rfl,fun x hx sx px => absurd px (hno x hx sx)⟩⟩
 ·rw [e,Int.toNat_natCast]
  by_cases hd : (p.A.F f).di = true
  ·rw [if_pos ⟨by omega,hd⟩]
   obtain ⟨g1,i1,hL,hQ,hc,hcase⟩ := wr_spec i hf hs hp (by simp)
   rcases hcase with ⟨hw,hF,hB⟩ | ⟨hw,hb,hA⟩
   ·refine ⟨g1,i1,hL,fun x => ?_,.inl ⟨hw,fun x hx sx px => ?_⟩⟩
    ·show ((p.wr f).A.F x).st = _ ∧ ((p.wr f).A.F x).pg = _ ∧ (_ → ((p.wr f).A.F x).di = false)
     rw [hF]
     by_cases ex : x = f
     ·subst ex;rw [upd_same];exact ⟨hs.symm,hp.symm,fun _ => rfl⟩
     ·rw [upd_other _ _ ex];exact ⟨rfl,rfl,id⟩
    ·show ((p.wr f).A.F x).di = false
     have ex : x = f := i.ga.uq x f hx hf sx hs (by omega)
     subst ex
     rw [hF,upd_same]
   ·refine ⟨g1,i1,hL,fun x => ?_,.inr ⟨hw,hb⟩⟩
    show ((p.wr f).A.F x).st = _ ∧ ((p.wr f).A.F x).pg = _ ∧ (_ → ((p.wr f).A.F x).di = false)
    rw [hA]
    exact ⟨rfl,rfl,id⟩
  ·rw [if_neg fun h => hd h.2]
   refine ⟨Go.refl p,i,rfl,fun x => ⟨rfl,rfl,id⟩,.inl ⟨rfl,fun x hx sx px => ?_⟩⟩
   have ex : x = f := i.ga.uq x f hx hf sx hs (by omega)
   subst ex
   simpa using hd
theorem flushTo_spec (i : Inv p) (k : Nat) : Go p (p.flushTo k).2 ∧ Inv (p.flushTo k).2 ∧ (p.flushTo k).2.L = p.L ∧ (∀ x,((p.flushTo k).2.A.F x).st = (p.A.F x).st ∧ ((p.flushTo k).2.A.F x).pg = (p.A.F x).pg) ∧
  (((p.flushTo k).1 = 0 ∧ ∀ x q : Nat,x < p.A.n → (p.A.F x).st = 1 → (p.A.F x).pg = (q : Int) → q < k → ((p.flushTo k).2.A.F x).di = false) ∨ ((p.flushTo k).1 = 9 ∧ p.D.bad ≠ 0)) := by
 induction k with
 | zero => exact ⟨Go.refl p,i,rfl,fun x => ⟨rfl,rfl⟩,.inl ⟨rfl,fun x q _ _ _ h => absurd h (Nat.not_lt_zero q)⟩⟩
 | succ k ih =>
  obtain ⟨g1,i1,hL,hF,hcase⟩ := ih
  have e : p.flushTo (k + 1) = if (p.flushTo k).1 = 0 then (p.flushTo k).2.flush (k : Int) else p.flushTo k := rfl
  rcases hcase with ⟨h0,hcl⟩ | ⟨h9,hb⟩
  ·rw [if_pos h0] at e
   rw [e]
   obtain ⟨g2,i2,hL2,hF2,hcase2⟩ := flush_spec i1 k
   refine ⟨g1.trans g2,i2,hL2.trans hL,fun x => ⟨(hF2 x).1.trans (hF x).1,(hF2 x).2.1.trans (hF x).2⟩,?_⟩
   rcases hcase2 with ⟨z0,zc⟩ | ⟨z9,zb⟩
   ·refine .inl ⟨z0,fun x q hx sx px hq => ?_⟩
    by_cases eq : q = k
    ·subst eq
     exact zc x (by rw [g1.n];exact hx) (by rw [(hF x).1];exact sx) (by rw [(hF x).2];exact px)
    ·exact (hF2 x).2.2 (hcl x q hx sx px (by omega))
   ·exact .inr ⟨z9,fun e0 => by have := g1.bad e0;omega⟩
  ·rw [if_neg (by rw [h9];decide)] at e
   rw [e]
   exact ⟨g1,i1,hL,hF,.inr ⟨h9,hb⟩⟩
theorem sync_spec (i : Inv p) : Go p p.sync.2 ∧ Inv p.sync.2 ∧ p.sync.2.A = p.A ∧ ((p.sync.1 = 0) ∨ (p.sync.1 = 9 ∧ p.D.bad = 1)) := by
 have hN := sync_N p.D
 refine ⟨⟨rfl,rfl,sync_zero⟩,i.same hN.1 (by rw [hN.2];exact i.dn) (fun r => cur_sync _ r) i.nd fun _ => Iff.rfl,rfl,?_⟩
 rcases acc_cases i.dn with ⟨hc,_⟩ | ⟨hc,hb⟩
 ·exact .inl hc
 ·exact .inr ⟨hc,hb⟩
end
end RfF
end Go.Proofs.YtbnkpnllgoghnaaGreat
