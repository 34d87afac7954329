import Derived.Test.YtbnkpnllgoghnaaGreatPf
import Derived.Lib.ConvBytes
import Derived.RangeFuncNested
import Derived.RangeFuncBound
import Derived.RangeFuncCalls
import Derived.RangeFuncLeaves
import Derived.RangeFuncBox
import Derived.Shelf.Abstract
import Derived.Shelf.RegionOpen
import Derived.OwnWalkIn
import Derived.TacticsInMore
import Derived.LoopNIn
import Derived.LoopIn
set_option linter.unusedVariables false
namespace Go.Proofs.YtbnkpnllgoghnaaGreat
open Go.Lib (hid)
namespace MdD
open Go.ChangeShapes Go.WideShapes Go.ChangeAt Go.RowKit
open Mem Blk Cells Orow GrC Txt MdM MdC MdR Stages Trees
open HdM (lst hnd cnt sum lst_eq hnd_at hnd_none hnd_cases cnt_yes cnt_no cnt_le sum_le)
def OpV (w : World) (b : Nat) (v : Value) (o : MdOp) : Prop := ∃ D dl dc,v = .agg #[.int .i64 o.k,.int .i64 o.p,.int .i64 o.h,.int .i64 o.o,.int .i64 o.n,.slice D dl dc] ∧ Sl w b .u8 D dl o.d ∧ Bytes o.d ∧ dl ≤ dc ∧ dc ≤ maxLen
def DoPost (G : Nat → Prop) (v : Value) (w : World) (x : Re × Md) (e : Ending) (w' : World) : Prop := (∃ rv,e = .returned rv ∧ ReV w' w.heap.size rv x.1) ∧ SAt w' G v x.2 ∧ Kept G w w'
section
variable {w w0 w1 : World} {G F X : Nat → Prop} {v : Value} {gT cT gB cB gH cH s : Nat} {q cp : Nat → Nat} {a a' : Md} {o : MdOp} {D : Option Addr} {dl dc : Nat}
theorem smKeep (h : SM w G gT cT gB cB gH cH q cp a) (hk : Kept F w w1) (h1 : ¬ F gT) (h2 : ¬ F gB) (h3 : ¬ F gH) (h4 : ∀ i,i < a.N → ¬ F (q i)) : SM w1 G gT cT gB cB gH cH q cp a :=
 ⟨h.tb.kept hk h1,h.bb.kept hk h2,h.hb.kept hk h3,fun i hi => (h.rb i hi).kept hk (h4 i hi),h.inj,h.ne,h.nq,h.inG,h.qG⟩
structure Bx (w w0 : World) (G : Nat → Prop) (gT cT gB cB gH cH : Nat) (q cp : Nat → Nat) (a : Md) (s : Nat) (o : MdOp) (D : Option Addr) (dl dc : Nat) : Prop where
 s0 : w0.cell? ⟨s,0,none⟩ = some (.slice (some ⟨gT,0,none⟩) a.n cT)
 s1 : w0.cell? ⟨s,1,none⟩ = some (.slice (some ⟨gB,0,none⟩) a.n cB)
 s2 : w0.cell? ⟨s,2,none⟩ = some (.slice (some ⟨gH,0,none⟩) a.N cH)
 sb : Blk w0 s 50 [.slice (some ⟨gT,0,none⟩) a.n cT,.slice (some ⟨gB,0,none⟩) a.n cB,.slice (some ⟨gH,0,none⟩) a.N cH]
 ob : Blk w0 (s + 1) 30 [.int .i64 o.k,.int .i64 o.p,.int .i64 o.h,.int .i64 o.o,.int .i64 o.n,.slice D dl dc]
 rb : Blk w0 (s + 1 + 1) 27 [.int .i64 0,.int .i64 0,.int .i64 0,.slice none 0 0]
 sm : SM w0 G gT cT gB cB gH cH q cp a
 gr : Grow w w0
 sz : s = w.heap.size
 lt : ∀ k,G k → k < s
 da : Sl w0 s .u8 D dl o.d
abbrev put4 (w : World) (g : Nat) (x y z d : Value) : World := (((w.setCell ⟨g,0,none⟩ x).setCell ⟨g,1,none⟩ y).setCell ⟨g,2,none⟩ z).setCell ⟨g,3,none⟩ d
theorem put4_blk {g : Nat} {t : TypeId} {x y z d x' y' z' d' : Value} (h : Blk w g t [x',y',z',d']) : Blk (put4 w g x y z d) g t [x,y,z,d] := (((h.set 0 x).set 1 y).set 2 z).set 3 d
theorem put4_kept (w : World) (g : Nat) (x y z d : Value) : Kept (· = g) w (put4 w g x y z d) := (((kept_set w g 0 x).trans (kept_set _ g 1 y)).trans (kept_set _ g 2 z)).trans (kept_set _ g 3 d)
theorem Bx.fin (H : Bx w w0 G gT cT gB cB gH cH q cp a s o D dl dc) (hs : SM w1 G gT cT gB cB gH cH q cp a') (hg : MdM.Good a') (hn : a'.n = a.n) (hN : a'.N = a.N) (hk : Kept G w0 w1) (c p h : Int) :
  Blk (put4 w1 (s + 1 + 1) (.int .i64 c) (.int .i64 p) (.int .i64 h) (.slice none 0 0)) (s + 1 + 1) 27 [.int .i64 c,.int .i64 p,.int .i64 h,.slice none 0 0] ∧
  DoPost G (sval gT cT gB cB gH cH a) w (⟨c,p,h,[]⟩,a') (.returned (.agg #[.int .i64 c,.int .i64 p,.int .i64 h,.slice none 0 0])) (put4 w1 (s + 1 + 1) (.int .i64 c) (.int .i64 p) (.int .i64 h) (.slice none 0 0)) := by
 have hlt := H.lt
 have h2 : ∀ k,G k → ¬ k = s + 1 + 1 := fun k hk e => by have := hlt k hk;omega
 have hsz := H.sz
 refine ⟨put4_blk (H.rb.kept hk fun x => h2 _ x rfl),⟨_,rfl,rev_none _ _ _ _ _⟩,⟨hg,gT,cT,gB,cB,gH,cH,q,cp,?_,smKeep hs (put4_kept w1 (s + 1 + 1) _ _ _ _) (h2 _ hs.inG.1) (h2 _ hs.inG.2.1) (h2 _ hs.inG.2.2) fun i hi => h2 _ (hs.qG i hi)⟩,?_⟩
 ·unfold sval;rw [hn,hN]
 ·exact (H.gr.kept.trans hk).then (put4_kept w1 (s + 1 + 1) _ _ _ _) fun k hk e => by have e : k = s + 1 + 1 := e;omega
theorem Bx.bad (H : Bx w w0 G gT cT gB cB gH cH q cp a s o D dl dc) (hg : MdM.Good a) (hk : Grow w0 w1) (c : Int) :
  Blk (put4 w1 (s + 1 + 1) (.int .i64 c) (.int .i64 0) (.int .i64 0) (.slice none 0 0)) (s + 1 + 1) 27 [.int .i64 c,.int .i64 0,.int .i64 0,.slice none 0 0] ∧
  DoPost G (sval gT cT gB cB gH cH a) w (err c,a) (.returned (.agg #[.int .i64 c,.int .i64 0,.int .i64 0,.slice none 0 0])) (put4 w1 (s + 1 + 1) (.int .i64 c) (.int .i64 0) (.int .i64 0) (.slice none 0 0)) :=
 H.fin (H.sm.kept hk fun _ _ x => x) hg rfl rfl hk.kept c 0 0
theorem bx_new (hm : SM w G gT cT gB cB gH cH q cp a) (hlt : ∀ k,G k → k < w.heap.size) (hd : Sl w w.heap.size .u8 D dl o.d) :
  Bx w (((w.alloc (.cells #[.slice (some ⟨gT,0,none⟩) a.n cT,.slice (some ⟨gB,0,none⟩) a.n cB,.slice (some ⟨gH,0,none⟩) a.N cH] 50)).alloc (.cells #[.int .i64 o.k,.int .i64 o.p,.int .i64 o.h,.int .i64 o.o,.int .i64 o.n,.slice D dl dc] 30)).alloc (.cells #[.int .i64 0,.int .i64 0,.int .i64 0,.slice none 0 0] 27)) G gT cT gB cB gH cH q cp a w.heap.size o D dl dc := by
 have b1 := Blk.new w 50 [.slice (some ⟨gT,0,none⟩) a.n cT,.slice (some ⟨gB,0,none⟩) a.n cB,.slice (some ⟨gH,0,none⟩) a.N cH]
 have g1 : Grow w (w.alloc (.cells #[.slice (some ⟨gT,0,none⟩) a.n cT,.slice (some ⟨gB,0,none⟩) a.n cB,.slice (some ⟨gH,0,none⟩) a.N cH] 50)) := (Kept.refl _ _).alloc _
 have z1 : (w.alloc (.cells #[.slice (some ⟨gT,0,none⟩) a.n cT,.slice (some ⟨gB,0,none⟩) a.n cB,.slice (some ⟨gH,0,none⟩) a.N cH] 50)).heap.size = w.heap.size + 1 := by simp
 generalize w.alloc (.cells #[.slice (some ⟨gT,0,none⟩) a.n cT,.slice (some ⟨gB,0,none⟩) a.n cB,.slice (some ⟨gH,0,none⟩) a.N cH] 50) = u1 at *
 have b2 := Blk.new u1 30 [.int .i64 o.k,.int .i64 o.p,.int .i64 o.h,.int .i64 o.o,.int .i64 o.n,.slice D dl dc]
 have g2 : Grow u1 (u1.alloc (.cells #[.int .i64 o.k,.int .i64 o.p,.int .i64 o.h,.int .i64 o.o,.int .i64 o.n,.slice D dl dc] 30)) := (Kept.refl _ _).alloc _
 have z2 : (u1.alloc (.cells #[.int .i64 o.k,.int .i64 o.p,.int .i64 o.h,.int .i64 o.o,.int .i64 o.n,.slice D dl dc] 30)).heap.size = w.heap.size + 1 + 1 := by simp [z1]
 rw [z1] at b2
 generalize u1.alloc (.cells #[.int .i64 o.k,.int .i64 o.p,.int .i64 o.h,.int .i64 o.o,.int .i64 o.n,.slice D dl dc] 30) = u2 at *
 have b3 := Blk.new u2 27 [.int .i64 0,.int .i64 0,.int .i64 0,.slice none 0 0]
 have g3 : Grow u2 (u2.alloc (.cells #[.int .i64 0,.int .i64 0,.int .i64 0,.slice none 0 0] 27)) := (Kept.refl _ _).alloc _
 rw [z2] at b3
 have bs := (b1.grow g2).grow g3
 exact ⟨bs.cell 0,bs.cell 1,bs.cell 2,bs,b2.grow g3,b3,hm.kept ((g1.trans g2).trans g3) fun _ _ x => x,(g1.trans g2).trans g3,rfl,hlt,Blk.Sl.kept hd ((g1.trans g2).trans g3) (Nat.le_refl _) fun _ _ x => x⟩
section
variable (H : Bx w w0 G gT cT gB cB gH cH q cp a s o D dl dc)
include H
theorem Bx.o0 : w0.cell? ⟨s + 1,0,none⟩ = some (.int .i64 o.k) := H.ob.cell 0
theorem Bx.o1 : w0.cell? ⟨s + 1,1,none⟩ = some (.int .i64 o.p) := H.ob.cell 1
theorem Bx.o2 : w0.cell? ⟨s + 1,2,none⟩ = some (.int .i64 o.h) := H.ob.cell 2
theorem Bx.o3 : w0.cell? ⟨s + 1,3,none⟩ = some (.int .i64 o.o) := H.ob.cell 3
theorem Bx.o4 : w0.cell? ⟨s + 1,4,none⟩ = some (.int .i64 o.n) := H.ob.cell 4
theorem Bx.o5 : w0.cell? ⟨s + 1,5,none⟩ = some (.slice D dl dc) := H.ob.cell 5
theorem Bx.s0K (hk : Kept G w0 w1) : w1.cell? ⟨s,0,none⟩ = some (.slice (some ⟨gT,0,none⟩) a.n cT) := hk.cellN H.s0 fun (x : G s) => absurd (H.lt s x) (Nat.lt_irrefl s)
theorem Bx.s1K (hk : Kept G w0 w1) : w1.cell? ⟨s,1,none⟩ = some (.slice (some ⟨gB,0,none⟩) a.n cB) := hk.cellN H.s1 fun (x : G s) => absurd (H.lt s x) (Nat.lt_irrefl s)
theorem Bx.s2K (hk : Kept G w0 w1) : w1.cell? ⟨s,2,none⟩ = some (.slice (some ⟨gH,0,none⟩) a.N cH) := hk.cellN H.s2 fun (x : G s) => absurd (H.lt s x) (Nat.lt_irrefl s)
theorem Bx.resK (hk : Kept G w0 w1) : w1.cell? ⟨s + 1 + 1,0,none⟩ = some (.int .i64 0) ∧ w1.cell? ⟨s + 1 + 1,1,none⟩ = some (.int .i64 0) ∧ w1.cell? ⟨s + 1 + 1,2,none⟩ = some (.int .i64 0) ∧ w1.cell? ⟨s + 1 + 1,3,none⟩ = some (.slice none 0 0) ∧ ∀ j,w1.frozen? ⟨s + 1 + 1,j,none⟩ = false := by
 have hb := H.rb.kept hk fun x => by have := H.lt _ x;omega
 exact ⟨hb.cell 0,hb.cell 1,hb.cell 2,hb.cell 3,hb.frozen⟩
theorem Bx.res (hk : Grow w0 w1) : w1.cell? ⟨s + 1 + 1,0,none⟩ = some (.int .i64 0) ∧ w1.cell? ⟨s + 1 + 1,1,none⟩ = some (.int .i64 0) ∧ w1.cell? ⟨s + 1 + 1,2,none⟩ = some (.int .i64 0) ∧ w1.cell? ⟨s + 1 + 1,3,none⟩ = some (.slice none 0 0) ∧ ∀ j,w1.frozen? ⟨s + 1 + 1,j,none⟩ = false := H.resK hk.kept
theorem Bx.sat (hg : MdM.Good a) : SAt w0 G (sval gT cT gB cB gH cH a) a := ⟨hg,gT,cT,gB,cB,gH,cH,q,cp,rfl,H.sm⟩
theorem Bx.finD (hg : MdM.Good a) (hk : Grow w0 w1) {A : Option Addr} {n cap : Nat} {zs : List Int} (hz : Sl w1 w1.heap.size .u8 A n zs) (hA : 0 < n → ∀ x,A = some x → w.heap.size ≤ x.block ∧ x.block ≠ s + 1 + 1) :
  Blk (put4 w1 (s + 1 + 1) (.int .i64 0) (.int .i64 0) (.int .i64 0) (.slice A n cap)) (s + 1 + 1) 27 [.int .i64 0,.int .i64 0,.int .i64 0,.slice A n cap] ∧
  DoPost G (sval gT cT gB cB gH cH a) w (⟨0,0,0,zs⟩,a) (.returned (.agg #[.int .i64 0,.int .i64 0,.int .i64 0,.slice A n cap])) (put4 w1 (s + 1 + 1) (.int .i64 0) (.int .i64 0) (.int .i64 0) (.slice A n cap)) := by
 have hlt := H.lt
 have h2 : ∀ k,G k → ¬ k = s + 1 + 1 := fun k hk e => by have := hlt k hk;omega
 have hsz := H.sz
 have hs : SAt w1 G (sval gT cT gB cB gH cH a) a := ⟨hg,gT,cT,gB,cB,gH,cH,q,cp,rfl,H.sm.kept hk fun _ _ x => x⟩
 refine ⟨put4_blk (H.rb.kept hk id),⟨_,rfl,A,n,cap,rfl,⟨hz.1,fun hn => ?_⟩,fun hn x e => (hA hn x e).1⟩,hs.kept (put4_kept w1 (s + 1 + 1) _ _ _ _) h2,?_⟩
 ·obtain ⟨b,off,e,hb,hc⟩ := hz.2 hn
  exact ⟨b,off,e,Nat.lt_of_lt_of_le hb (put4_kept w1 (s + 1 + 1) _ _ _ _).size,fun j hj => (put4_kept w1 (s + 1 + 1) _ _ _ _).cellN (hc j hj) (hA hn _ e).2⟩
 ·exact (Grow.kept (H.gr.trans hk)).then (put4_kept w1 (s + 1 + 1) _ _ _ _) fun k hk e => by have e : k = s + 1 + 1 := e;omega
theorem Bx.finS (hs : SAt w1 G (sval gT cT gB cB gH cH a) a') (_hn : a'.n = a.n) (_hN : a'.N = a.N) (hk : Kept G w0 w1) (c p h : Int) :
  Blk (put4 w1 (s + 1 + 1) (.int .i64 c) (.int .i64 p) (.int .i64 h) (.slice none 0 0)) (s + 1 + 1) 27 [.int .i64 c,.int .i64 p,.int .i64 h,.slice none 0 0] ∧
  DoPost G (sval gT cT gB cB gH cH a) w (⟨c,p,h,[]⟩,a') (.returned (.agg #[.int .i64 c,.int .i64 p,.int .i64 h,.slice none 0 0])) (put4 w1 (s + 1 + 1) (.int .i64 c) (.int .i64 p) (.int .i64 h) (.slice none 0 0)) := by
 have hlt := H.lt
 have h2 : ∀ k,G k → ¬ k = s + 1 + 1 := fun k hk e => by have := hlt k hk;omega
 have hsz := H.sz
 refine ⟨put4_blk (H.rb.kept hk fun x => h2 _ x rfl),⟨_,rfl,rev_none _ _ _ _ _⟩,hs.kept (put4_kept w1 (s + 1 + 1) _ _ _ _) h2,?_⟩
 exact (H.gr.kept.trans hk).then (put4_kept w1 (s + 1 + 1) _ _ _ _) fun k hk e => by have e : k = s + 1 + 1 := e;omega
end
theorem gap_le (a : Md) : a.gap ≤ a.n := HdM.lst_le _ _
theorem gap_there {p : Nat} (h : p < a.gap) : a.T p = true := by
 have := HdM.lst_free _ _ p h
 cases e : a.T p with
 | true => rfl
 | false => rw [e] at this;exact absurd rfl this
theorem gap_free {p : Nat} (h : a.gap = p) (hp : p < a.n) : a.T p = false := by
 have := HdM.lst_at (fun i => if a.T i then 0 else -1) a.n (by show a.gap < a.n;omega)
 have e : lst (fun i => if a.T i then 0 else -1) a.n = p := h
 rw [e] at this
 cases e2 : a.T p with
 | false => rfl
 | true => rw [e2] at this;simp at this
theorem bytes_grow (w : World) (e : TypeId) (s : ByteArray) : Grow w (Lib.bytesWorld w e s) :=
 ⟨rfl,rfl,rfl,by rw [Lib.bytesWorld_size];omega,fun k hk _ => Lib.bytesWorld_at_old w e s k hk⟩
theorem bytes_sl (w : World) (e : TypeId) {zs : List Int} (hz : Bytes zs) : Sl (Lib.bytesWorld w e (strOfNums zs)) (Lib.bytesWorld w e (strOfNums zs)).heap.size .u8 (some ⟨w.heap.size,0,none⟩) zs.length zs := by
 refine ⟨rfl,fun _ => ⟨w.heap.size,0,rfl,by rw [Lib.bytesWorld_size];omega,fun j hj => ?_⟩⟩
 rw [Nat.zero_add,Lib.bytesWorld_cell w e _ j (by rw [str_size];exact hj),strOfNums_data]
 have hb := hz (zs.getD j 0) (by rw [List.getD_eq_getElem?_getD,List.getElem?_eq_getElem hj];exact List.getElem_mem hj)
 rw [List.getD_eq_getElem?_getD,List.getElem?_map,List.getElem?_eq_getElem hj]
 rw [List.getD_eq_getElem?_getD,List.getElem?_eq_getElem hj] at hb ⊢
 simp only [Option.map_some,Option.getD_some] at hb ⊢
 have : (UInt8.ofNat zs[j].toNat).toNat = zs[j].toNat := by simp;omega
 rw [this,Int.toNat_of_nonneg hb.1]
theorem str_mid (zs : List Int) (o n : Nat) (_h : o + n ≤ zs.length) : (strOfNums zs).extract o (o + n) = strOfNums ((zs.drop o).take n) := by
 apply ByteArray.ext
 rw [ByteArray.data_extract]
 apply Array.ext'
 simp [strOfNums,List.map_drop,List.map_take]
end
end MdD
namespace PmI
open Go.ChangeShapes Go.WideShapes Go.ChangeAt Go.RowKit
open Mem Blk Cells Orow GrC Txt MdM MdC MdD Stages
open HdM (lst hnd cnt sum lst_eq hnd_at hnd_none hnd_cases cnt_yes cnt_no cnt_le sum_le lst_at lst_le)
section
def pg (f : Nat → Int) (h : Int) : Int := if 0 ≤ h ∧ h < 6 then f h.toNat else -1
def fits (o n : Int) : Prop := 0 ≤ o ∧ 0 ≤ n ∧ n ≤ 16 - o
instance (o n : Int) : Decidable (fits o n) := inferInstanceAs (Decidable (_ ∧ _))
end
end PmI
namespace PmT
open Go.ChangeShapes Go.WideShapes Go.ChangeAt Go.RowKit
open Mem Blk Cells Orow GrC MdM MdC MdR MdD PmI Stages Trees
open HdM (lst hnd cnt sum lst_eq hnd_at hnd_none hnd_cases cnt_yes cnt_no cnt_le sum_le)
def Fz (w : World) (A : Option Addr) (n : Nat) : Prop := 0 < n → ∀ x,A = some x → ∀ j,w.frozen? ⟨x.block,j,none⟩ = false
theorem fz_nil (w : World) : Fz w none 0 := fun h => absurd h (Nat.lt_irrefl 0)
theorem sl_lt {w : World} {B n : Nat} {k : IntKind} {A : Option Addr} {zs : List Int} (h : Sl w B k A n zs) (hn : 0 < n) {x : Addr} (e : A = some x) : x.block < B := by
 obtain ⟨b,off,e2,hb,_⟩ := h.2 hn
 rw [e2] at e
 injection e with e
 rw [← e]
 exact hb
theorem Fz.kept {w w' : World} {F : Nat → Prop} {A : Option Addr} {n : Nat} (h : Fz w A n) (hk : Kept F w w') (hA : 0 < n → ∀ x,A = some x → x.block < w.heap.size ∧ ¬ F x.block) : Fz w' A n := fun hn x e j => by
 obtain ⟨h1,h2⟩ := hA hn x e
 exact (hk.frozen (p := ⟨x.block,j,none⟩) h1 h2).trans (h hn x e j)
end PmT
namespace RgB
open Go.ChangeShapes Go.WideShapes Go.ChangeAt Go.RowKit
open Mem Blk Cells Orow RfP RgP RgS RgA Stages
open ArM (Ar Fr)
open ArC (ArAt FR)
open ArB (bcell)
open Dev (Dv DevAt)
open ListM (outL frontL okO)
open HdM (Hs)
open RfM (Pl)
open RfI (InvE Inv)
open RgM (Bnd saveC saveS)
section
variable {w w' : World} {col col' : Nat → Nat} {ν : Nm} {S : Dv} {A : Ar} {L : List Nat} {H : Hs} {T : Nat → Bool} {g : Nat} {t : TypeId} {cs : List Value}
theorem Went.blk (h : Went w col w' col') (hb : Blk w g t cs) (h0 : col g < 6 ∨ 11 < col g) : Blk w' g t cs ∧ (col' g < 6 ∨ 11 < col' g) :=
 ⟨hb.kept h.kept fun m => by have := m.2;omega,by rw [h.old g hb.lt];exact h0⟩
theorem Went.box {w1 w2 : World} {c1 : Nat → Nat} (h : Went w col w1 c1) (hk : Kept (fun k => k = g) w1 w2) (hg : w.heap.size ≤ g) : Went w col w2 c1 := ⟨h.old,h.kept.then hk fun k h1 h2 => absurd h2 (by omega)⟩
theorem set_row {g : Nat} {t : TypeId} {cs : List Value} (h : Blk w g t cs) (xs : Array Value) : Blk (w.setRow g xs) g t xs.toList ∧ Kept (fun k => k = g) w (w.setRow g xs) :=
 ⟨by have := setRow_heap w g _ xs t (0,0) h;unfold Blk;rw [this],⟨rfl,rfl,rfl,by simp,fun i hi hf => setRow_other w g i _ hf⟩⟩
theorem fr_size : (Tryz.prog.info? 36).map (·.size) = some 5 := by kernel_rfl
theorem frames_at {G : Nat → Prop} {d : Nat} {a : Ar} (h : ArAt w G d a) (h0 : 0 < a.n) : Calls Tryz.prog 48 #[.pointer (some ⟨d,0,none⟩)] w fun e w' => ∃ g c,e = .returned (.slice (some ⟨g,0,none⟩) a.n c) ∧ FR w' g c a.n a.F ∧ w.heap.size ≤ g ∧ Grow w w' := by
 refine (ArB.frames_any h).mono fun e w' ⟨v,he,ho,hg⟩ => ?_
 obtain ⟨g,c,rfl,ho,hl⟩ := ho.form h0
 exact ⟨g,c,he,ho,hl,hg⟩
theorem or_sl {c n : Nat} {zs : List Int} (h : OR w g t 1 c n (bcell zs)) (hl : zs.length = n) : Sl w w.heap.size .u8 (some ⟨g,0,none⟩) n zs :=
 ⟨hl,fun _ => ⟨g,0,rfl,h.lt,fun j hj => by rw [Nat.zero_add];exact h.cell (by omega)⟩⟩
theorem body_at {G : Nat → Prop} {d : Nat} {a : Ar} (h : ArAt w G d a) {f : Nat} (hf : f < a.n) (hs : (a.F f).st = 1) : Calls Tryz.prog 97 #[.pointer (some ⟨d,0,none⟩),.int .i64 (f : Int)] w fun e w' => ∃ g c,e = .returned (.slice (some ⟨g,0,none⟩) 16 c) ∧ OR w' g 5 1 c 16 (bcell (a.B f)) ∧ w.heap.size ≤ g ∧ Grow w w' := by
 refine (ArB.body_good h (f : Int) (ArM.used_iff.2 ⟨f,rfl,hf,hs⟩)).mono fun e w' ⟨g,c,he,hl,ho,hg⟩ => ?_
 rw [Int.toNat_natCast] at ho
 exact ⟨g,c,he,ho,hl,hg⟩
theorem heard0 (w : World) : Calls Tryz.prog 103 #[.int .i64 0] w fun x w' => x = .returned (.int .i64 0) ∧ w = w' := heard_any 0 w
theorem heard9 (w : World) : Calls Tryz.prog 103 #[.int .i64 9] w fun x w' => x = .returned (.int .i64 9) ∧ w = w' := heard_any 9 w
def ResV (w : World) (base : Nat) (col : Nat → Nat) (v : Value) (r : MdM.Re) : Prop := ∃ A n cap,v = .agg #[.int .i64 r.c,.int .i64 r.p,.int .i64 r.h,.slice A n cap] ∧ Sl w w.heap.size .u8 A n r.d ∧ (∀ x,A = some x → 0 < n → base ≤ x.block ∧ (col x.block < 6 ∨ 11 < col x.block)) ∧ PmT.Fz w A n
theorem resv_none (w : World) (base : Nat) (col : Nat → Nat) (c p h : Int) : ResV w base col (.agg #[.int .i64 c,.int .i64 p,.int .i64 h,.slice none 0 0]) ⟨c,p,h,[]⟩ :=
 ⟨none,0,0,rfl,Sl.nil _ _ _ _,fun _ h => (by cases h),PmT.fz_nil w⟩
def RPost (ν : Nm) (w : World) (col : Nat → Nat) (r : MdM.Re) (S : Dv) (A : Ar) (L : List Nat) (H : Hs) (T : Nat → Bool) (e : Ending) (w' : World) : Prop :=
 ∃ rv col',e = .returned rv ∧ ResV w' w.heap.size col' rv r ∧ Went w col w' col' ∧ MAt w' col' ν S A L H T
theorem code_any (c : Int) (w : World) : Calls Tryz.prog 39 #[.int .i64 c] w fun e w' => e = .returned (.agg #[.int .i64 c,.int .i64 0,.int .i64 0,.slice none 0 0]) ∧ Grow w w' := by
 have hb := Blk.new w 27 [.int .i64 0,.int .i64 0,.int .i64 0,.slice none 0 0]
 have hg : Grow w (w.alloc (.cells #[.int .i64 0,.int .i64 0,.int .i64 0,.slice none 0 0] 27)) := (Kept.refl _ _).alloc _
 have HB := hid hb
 have HG := hid hg
 clear hb hg
 go_enter Tryz.func39,Tryz.ntmps39
 go_wp2_with (refine wpList_store_row rfl 27 _ _ rfl w.heap.size #[.int .i64 c,.int .i64 0,.int .i64 0,.slice none 0 0] rfl rfl _ _ HB.out MdC.res_size rfl (by simp [Value.oneCell']) ?_)
 have HR := hid (set_row HB.out #[.int .i64 c,.int .i64 0,.int .i64 0,.slice none 0 0])
 refine MdC.ret_res (g := w.heap.size) rfl rfl HR.out.1 rfl ?_
 exact ⟨rfl,HG.out.then HR.out.2 fun k hk e => by omega⟩
theorem hand_any (x : MAt w col ν S A L H T) (c p f : Int) : Calls Tryz.prog 92 #[.pointer (some ⟨ν.r,0,none⟩),.int .i64 c,.int .i64 p,.int .i64 f] w (RPost ν w col ⟨0,p,H.give c p,[]⟩ S (A.pin f) L (H.gave c p) T) := by
 have c1 := x.c1
 have hb := Blk.new w 27 [.int .i64 0,.int .i64 0,.int .i64 0,.slice none 0 0]
 have hg : Grow w (w.alloc (.cells #[.int .i64 0,.int .i64 0,.int .i64 0,.slice none 0 0] 27)) := (Kept.refl _ _).alloc _
 have HX := hid (x.grow hg)
 have HW := hid (Went.grow (col := col) hg)
 have HC : Hid (paint w.heap.size 0 col w.heap.size < 6 ∨ 11 < paint w.heap.size 0 col w.heap.size) := .inl (by rw [paint_new (Nat.le_refl _)];decide)
 have HB := hid hb
 have HP := hid (ArD.pin_any HX.out.arena f)
 have e1 := HX.out.c1
 clear x hb hg
 go_enter Tryz.func92,Tryz.ntmps92
 go_upto_region 1 with (fail)
 generalize w.alloc (.cells #[.int .i64 0,.int .i64 0,.int .i64 0,.slice none 0 0] 27) = w0 at *
 go_upto_region 2 with (go_at_call 149;(with_reducible refine HP.out.mono ?_);rintro e w1 ⟨rfl,hl,hk⟩;obtain ⟨c1',hw1,hm1⟩ := HX.out.setA hl hk;have HW1 := hid hw1;have d2 := hm1.c2;have HG := hid (HdO.give_any hm1.hand c p);have HM1 := hid hm1;clear hl hk hw1 hm1)
 clear e1
 have HB1 := hid (Went.blk HW1.out HB.out HC.out)
 go_wp2_with (first
  | (go_at_call 150;(with_reducible refine HG.out.mono ?_);rintro e w2 ⟨rfl,hl,hk⟩;obtain ⟨c2',hw2,hm2⟩ := HM1.out.setH hl hk;have HW2 := hid hw2;have HM2 := hid hm2;have HB2 := hid (Went.blk HW2.out HB1.out.1 HB1.out.2);clear hl hk hw2 hm2 d2)
  | (refine wpList_store_row rfl 27 _ _ rfl w.heap.size #[.int .i64 0,.int .i64 p,.int .i64 (H.give c p),.slice none 0 0] rfl rfl _ _ HB2.out.1 MdC.res_size rfl (by simp [Value.oneCell']) ?_))
 have HR := hid (set_row HB2.out.1 #[.int .i64 0,.int .i64 p,.int .i64 (H.give c p),.slice none 0 0])
 refine MdC.ret_res (g := w.heap.size) rfl rfl HR.out.1 rfl ?_
 have hk2 := HR.out.2
 have hc2 := HB2.out.2
 exact ⟨_,c2',rfl,resv_none _ _ _ _ _ _,Went.box ((HW.out.trans HW1.out).trans HW2.out) hk2 (Nat.le_refl _),HM2.out.keep hk2 (fun k _ e => by rw [e];exact hc2) fun _ _ => rfl⟩
theorem save_none (x : Nat) (w : World) : Calls Tryz.prog 101 #[.pointer (some ⟨x,0,none⟩),.int .i64 (-1)] w fun e w' => e = .returned (.int .i64 0) ∧ w = w' := by
 go_enter Tryz.func101,Tryz.ntmps101
 go_wp2
 go_ret
 exact ⟨rfl,rfl⟩
set_option maxHeartbeats 1000000 in
set_option maxRecDepth 100000 in
theorem save_any {p : Pl} {h : Option Nat} {f k : Nat} (x : MAt w col ν p.D p.A p.L H T) (i : InvE p h) (hf : f < p.A.n) (hb : MdM.Bytes (p.A.B f)) (hl : Bnd p.D k) (hk : k ≤ 1000000) :
  Calls Tryz.prog 101 #[.pointer (some ⟨ν.r,0,none⟩),.int .i64 (f : Int)] w (Post ν w col (.int .i64 (saveC p f)) (saveS p f).D (saveS p f).A (saveS p f).L H T) := by
 have c1 := x.c1
 have hn32 := i.ga.n
 have hnz : (p.A.n : Int) ≤ 32 := by omega
 have hfz : (f : Int) < (p.A.n : Int) := by omega
 have HF := hid (frames_at x.arena (by omega))
 have HX := hid x
 cases hd : (p.A.F f).di with
 | false =>
  have E1 : Hid (saveC p f = 0) := by unfold Hid saveC;rw [hd];rfl
  have E2 : Hid (saveS p f = p) := by unfold Hid saveS;rw [hd];rfl
  rw [E1.out,E2.out]
  clear x i hb hl hk
  go_enter Tryz.func101,Tryz.ntmps101
  go_upto_region 4 with (first
   | (go_at_call 48;(with_reducible refine HF.out.mono ?_);rintro e w1 ⟨g,c,rfl,ho,hg,hgr⟩;have k0 := FR.c0 ho hf;have k1 := FR.c1 ho hf;have k2 := FR.c2 ho hf;have k3 := FR.c3 ho hf;have k4 := FR.c4 ho hf;rw [hd] at k4;have HB := hid (Blk.new w1 36 [.int .i64 0,.int .i64 0,.int .i64 0,.int .i64 0,.bool false]);have HGR := hid hgr;clear ho hg hgr)
   | (refine wpList_store_row rfl 36 _ _ rfl w1.heap.size #[.int .i64 (p.A.F f).st,.int .i64 (p.A.F f).pg,.int .i64 (p.A.F f).pn,.int .i64 0,.bool false] rfl rfl _ _ HB.out fr_size rfl (by simp [Value.oneCell']) ?_))
  have HR := hid (set_row HB.out #[.int .i64 (p.A.F f).st,.int .i64 (p.A.F f).pg,.int .i64 (p.A.F f).pn,.int .i64 0,.bool false])
  have HG2 : Hid (Grow w1 ((w1.alloc (.cells #[.int .i64 0,.int .i64 0,.int .i64 0,.int .i64 0,.bool false] 36)).setRow w1.heap.size #[.int .i64 (p.A.F f).st,.int .i64 (p.A.F f).pg,.int .i64 (p.A.F f).pn,.int .i64 0,.bool false])) := ((Kept.refl _ w1).alloc _).then HR.out.2 fun k hk e => by omega
  have b1 := HR.out.1.cell 1
  have b4 := HR.out.1.cell 4
  simp only [List.getElem?_cons_succ,List.getElem?_cons_zero] at b1 b4
  clear k0 k1 k2 k3 k4
  generalize (w1.alloc (.cells #[.int .i64 0,.int .i64 0,.int .i64 0,.int .i64 0,.bool false] 36)).setRow w1.heap.size #[.int .i64 (p.A.F f).st,.int .i64 (p.A.F f).pg,.int .i64 (p.A.F f).pn,.int .i64 0,.bool false] = w2 at *
  go_wp2
  go_ret
  exact ⟨rfl,HX.out.grow' (HGR.out.trans HG2.out)⟩
 | true =>
  have hs : (p.A.F f).st = 1 := by
   rcases i.st f hf with e | e
   ·have := (i.ga.rest f hf (by omega)).2.2
    rw [hd] at this
    cases this
   ·exact e
  obtain ⟨q,hq,hp⟩ := i.pg f hf hs
  have h48 := i.q48 hq
  have hqz : (q : Int) < 48 := by omega
  have hqN : q < p.D.N := by rw [i.dN];exact hq
  have hlen : (p.A.B f).length = 16 := i.ga.b f
  have himg : p.img f = PageM.sealI (q : Int) (p.A.B f) := by unfold Pl.img;rw [hp];exact RfM.seal_ok h48 hlen
  have hil : (PageM.sealI (q : Int) (p.A.B f)).length = 24 := by rw [PageM.seal_len,hlen]
  have EW : Hid (p.wrC f = Dev.writeC p.D (q : Int) 24) := by unfold Hid Pl.wrC;rw [hp,himg,hil]
  have he : p.wrC f = 0 ∨ p.wrC f = 9 := by
   rw [EW.out]
   have := RfM.write_code (z := PageM.sealI (q : Int) (p.A.B f)) hqN hil
   rw [hil] at this
   rw [this]
   rcases RfM.acc_cases i.dn with ⟨h,_⟩ | ⟨h,_⟩
   ·exact .inl h
   ·exact .inr h
  have E1 : Hid (saveC p f = p.wrC f) := by unfold Hid saveC;rw [hd];rfl
  have E2 : Hid (saveS p f = ⟨p.X,Dev.writeS p.D (q : Int) (PageM.sealI (q : Int) (p.A.B f)),if p.wrC f = 0 then p.A.mark (f : Int) false else p.A,p.L⟩) := by unfold Hid saveS Pl.wr;rw [hd,himg,hp];rfl
  have hbz : SumM.Bytes (PageM.sealI (q : Int) (p.A.B f)) := PageM.seal_bytes (by omega) hqz hb
  have HBZ := hid hbz
  have HBB : Hid (SumM.Bytes (p.A.B f)) := hb
  have HLEN := hid hlen
  have HL := hid (And.intro hl.1 (And.intro hl.2 hk))
  have HS := hid hs
  have HIL := hid hil
  rw [E1.out,E2.out]
  have HFF := hid hf
  have HPP := hid hp
  have HDD := hid hd
  have HEE := hid he
  clear x hp hd he i hb hl hk himg hq h48 hqN hlen hil hbz hs E1 E2
  have HQ0 : Hid ((0 : Int) ≤ (q : Int) ∧ (q : Int) < 48) := ⟨by omega,hqz⟩
  generalize hPP : Post ν w col _ _ _ _ H T = PP
  have HPQ := hid hPP
  clear hPP
  go_enter Tryz.func101,Tryz.ntmps101
  go_upto_region 4 with (first
   | (go_at_call 48;(with_reducible refine HF.out.mono ?_);rintro e w1 ⟨g,c,rfl,ho,hg,hgr⟩;have k0 := FR.c0 ho hf;have k1 := FR.c1 ho hf;have k2 := FR.c2 ho hf;have k3 := FR.c3 ho hf;have k4 := FR.c4 ho hf;rw [HDD.out] at k4;rw [HPP.out] at k1;have HB := hid (Blk.new w1 36 [.int .i64 0,.int .i64 0,.int .i64 0,.int .i64 0,.bool false]);have HGR := hid hgr;clear ho hg hgr)
   | (refine wpList_store_row rfl 36 _ _ rfl w1.heap.size #[.int .i64 (p.A.F f).st,.int .i64 (q : Int),.int .i64 (p.A.F f).pn,.int .i64 0,.bool true] rfl rfl _ _ HB.out fr_size rfl (by simp [Value.oneCell']) ?_))
  have HR := hid (set_row HB.out #[.int .i64 (p.A.F f).st,.int .i64 (q : Int),.int .i64 (p.A.F f).pn,.int .i64 0,.bool true])
  have HG2 : Hid (Grow w1 ((w1.alloc (.cells #[.int .i64 0,.int .i64 0,.int .i64 0,.int .i64 0,.bool false] 36)).setRow w1.heap.size #[.int .i64 (p.A.F f).st,.int .i64 (q : Int),.int .i64 (p.A.F f).pn,.int .i64 0,.bool true])) := ((Kept.refl _ w1).alloc _).then HR.out.2 fun k hk e => by omega
  have b1 := HR.out.1.cell 1
  have b4 := HR.out.1.cell 4
  simp only [List.getElem?_cons_succ,List.getElem?_cons_zero] at b1 b4
  clear k0 k1 k2 k3 k4
  have HBX := hid HR.out.1
  obtain ⟨n,hn⟩ : ∃ n,w1.heap.size = n := ⟨_,rfl⟩
  have HSZ : Hid (w.heap.size ≤ n) := by have := HGR.out.size;rw [hn] at this;exact this
  have HW2 : Hid (Went w col _ _) := Went.grow (col := col) (HGR.out.trans HG2.out)
  have HX2 := hid (HX.out.grow (HGR.out.trans HG2.out))
  clear HR HG2
  generalize (w1.alloc (.cells #[.int .i64 0,.int .i64 0,.int .i64 0,.int .i64 0,.bool false] 36)).setRow w1.heap.size #[.int .i64 (p.A.F f).st,.int .i64 (q : Int),.int .i64 (p.A.F f).pn,.int .i64 0,.bool true] = w2 at *
  rw [hn] at *
  have HC2 : Hid (paint w.heap.size 0 col n < 6 ∨ 11 < paint w.heap.size 0 col n) := .inl (by rw [paint_new HSZ.out];decide)
  generalize paint w.heap.size 0 col = col2 at *
  have c1 := HX2.out.c1
  clear HX HF HGR hn
  have HBO := hid (body_at HX2.out.drew.arena HFF.out HS.out)
  go_upto_region 6 with (fail)
  have u1 := up_cell (F := fun _ => False) (w := w2.drew) (p := ⟨n,1,none⟩) b1 id
  have u2 := up_cell (F := fun _ => False) (w := w2.drew) (p := ⟨ν.r,1,none⟩) c1 id
  refine wp_region_stages Grow (kept_refl _) (kept_trans _) [([0,1,2,3,4,5,6],7),([],8)] [9,10,11,12,13] (by kernel_rfl) (by kernel_rfl) ?_
  simp only [selSt,sel,ZmC,ZmN,ZgS,ZgZ]
  refine st_cons fun K1 hK1 => ?_
  repeat (go_big_quiet_step (fail))
  refine wpQuiet_nil ?_
  go_wp2_with (go_at_call 97;(with_reducible refine HBO.out.mono ?_);rintro e w3 ⟨gb,cb,rfl,hob,hgb,hg3⟩;have HSE := hid (PageC.seal_good (q : Int) _ cb w3.heap.size _ w3 HQ0.out.1 HQ0.out.2 HBB.out (or_sl hob HLEN.out) (Nat.le_refl _));have HG3 := hid hg3;clear hob hgb hg3)
  refine norm_up (hK1 _ _ HG3.out (st_cons fun K2 hK2 => wpQuiet_nil ?_))
  clear hK1 K1 u1 u2
  go_wp2_with (go_at_call 82;(with_reducible refine HSE.out.mono ?_);rintro e w4 ⟨gi,rfl,hgi,hbi,hg4⟩;have HBI := hid hbi;have HGI := hid hgi;have HG4 := hid hg4;clear hbi hgi hg4)
  refine norm_up (hK2 _ _ HG4.out (st_nil fun K4 hK4 => ?_))
  clear hK2 K2
  repeat (go_big_quiet_step (fail))
  refine wpQuiet_nil (hK4 _ ?_)
  clear hK4 K4 HBO HSE
  have HG24 : Hid (Grow w2 w4) := ((Kept.drew' w2).trans HG3.out).trans HG4.out
  have HW4 := hid (HW2.out.trans (Went.grow (col := col2) HG24.out))
  have HX4 := hid (HX2.out.grow HG24.out)
  have HBX4 := hid (HBX.out.grow HG24.out)
  have HC4 : Hid (paint w2.heap.size 0 col2 n < 6 ∨ 11 < paint w2.heap.size 0 col2 n) := by
   have := HC2.out
   unfold Hid
   rw [paint_old HBX.out.lt]
   exact this
  have HCI : Hid (paint w2.heap.size 0 col2 gi = 0) := paint_new (by have h1 := HGI.out;have h2 := HG3.out.size;have h3 : w2.heap.size = w2.drew.heap.size := rfl;omega)
  generalize paint w2.heap.size 0 col2 = col4 at *
  clear HX2 HW2 HBX b1 b4 c1 HC2 HGI HG3 HG4 HG24
  have b1 := HBX4.out.cell 1
  simp only [List.getElem?_cons_succ,List.getElem?_cons_zero] at b1
  have c0 := HX4.out.c0
  have HOW := hid (HX4.out.four.d.own)
  have HWR : Hid (Calls Tryz.prog 155 #[.pointer (some ⟨ν.d,0,none⟩),.int .i64 (q : Int),.slice (some ⟨gi,0,none⟩) 24 24] w4.drew (DevC.DevPost ν.d ν.D ν.W (Bar w4.drew.heap.size col4 ν.d ν.D ν.W) w4.drew (.int .i64 (p.wrC f)) (Dev.writeS p.D (q : Int) (PageM.sealI (q : Int) (p.A.B f))))) := by
   rw [EW.out]
   refine Plays.dwrite_any HX4.out.drew.dev (q : Int) _ 24 24 w4.heap.size _ (by have := HQ0.out;omega) (by have := HQ0.out;omega) (by decide) (fun w' hk => ?_) HBZ.out (Bar.low HX4.out.drew.four.d) (by have := HL.out;omega) (by have := HL.out;omega)
   exact sl_off (Sl.of_blk0 (w := w4) HBI.out HIL.out HBI.out.lt) ((Kept.drew' w4).trans hk) fun y ey hy => by
    injection ey with ey
    subst ey
    have h1 := (HOW.out gi hy).2
    rw [HCI.out] at h1
    exact absurd h1 (by decide)
  go_upto_region 7 with (fail)
  have HBIx := HBI
  have u1 := up_cell (F := Dev.Own ν.d ν.D ν.W) (w := w4.drew) (p := ⟨n,1,none⟩) b1 (fun y => by have h1 := (HOW.out n y).2;have h2 := HC4.out;omega)
  have u0 := up_cell (F := Dev.Own ν.d ν.D ν.W) (w := w4.drew) (p := ⟨ν.r,0,none⟩) c0 (fun y => by have h1 := (HOW.out ν.r y).2;have h2 := HX4.out.cr;omega)
  refine wp_region_stages (Kept (Dev.Own ν.d ν.D ν.W)) (kept_refl _) (kept_trans _) [([0,1,2,3,4,5,6],7),([],8)] [9] (by kernel_rfl) (by kernel_rfl) ?_
  simp only [selSt,sel,ZmC,ZmN,ZgS,ZgZ]
  refine st_cons fun K1 hK1 => ?_
  repeat (go_big_quiet_step (fail))
  refine wpQuiet_nil ?_
  rcases HEE.out with he | he
  ·rw [he] at HWR
   go_wp2_with (go_at_call 155;(with_reducible refine HWR.out.mono ?_);rintro e w5 ⟨rfl,hd5,hk5⟩;obtain ⟨col5,hw5,hm5⟩ := HX4.out.drew.setD hd5 hk5;have HW5 := hid hw5;have HM5 := hid hm5;have HK5 := hid hk5;clear hw5 hm5 hk5 hd5)
   refine norm_up (hK1 _ _ HK5.out (st_cons fun K2 hK2 => wpQuiet_nil ?_))
   clear hK1 K1 u1 u0
   go_wp2_with (go_at_call 103;(with_reducible refine (heard0 w5).mono ?_);rintro e w6 ⟨rfl,rfl⟩)
   refine norm_up (hK2 _ _ (Kept.refl _ _) (st_nil fun K4 hK4 => ?_))
   clear hK2 K2
   repeat (go_big_quiet_step (fail))
   refine wpQuiet_nil (hK4 _ ?_)
   clear hK4 K4 b1 c0
   have c1 := HM5.out.c1
   have HMK := hid (ArD.mark_any HM5.out.arena (f : Int) false)
   go_wp2_with (go_at_call 91;(with_reducible refine HMK.out.mono ?_);rintro e w6 ⟨rfl,hl,hk⟩;obtain ⟨c6,hw6,hm6⟩ := HM5.out.setA hl hk;have HW6 := hid hw6;have HM6 := hid hm6;clear hl hk hw6 hm6)
   rw [← HPQ.out,he,if_pos rfl]
   exact ⟨rfl,c6,((HW4.out.trans (Went.drew w4 col4)).trans HW5.out).trans HW6.out,HM6.out⟩
  ·rw [he] at HWR
   go_wp2_with (go_at_call 155;(with_reducible refine HWR.out.mono ?_);rintro e w5 ⟨rfl,hd5,hk5⟩;obtain ⟨col5,hw5,hm5⟩ := HX4.out.drew.setD hd5 hk5;have HW5 := hid hw5;have HM5 := hid hm5;have HK5 := hid hk5;clear hw5 hm5 hk5 hd5)
   refine norm_up (hK1 _ _ HK5.out (st_cons fun K2 hK2 => wpQuiet_nil ?_))
   clear hK1 K1 u1 u0
   go_wp2_with (go_at_call 103;(with_reducible refine (heard9 w5).mono ?_);rintro e w6 ⟨rfl,rfl⟩)
   refine norm_up (hK2 _ _ (Kept.refl _ _) (st_nil fun K4 hK4 => ?_))
   clear hK2 K2
   repeat (go_big_quiet_step (fail))
   refine wpQuiet_nil (hK4 _ ?_)
   clear hK4 K4 b1 c0
   go_wp2
   rw [← HPQ.out,he,if_neg (by decide)]
   exact ⟨rfl,col5,(HW4.out.trans (Went.drew w4 col4)).trans HW5.out,HM5.out⟩
end
end RgB
namespace RgR
open Go.ChangeShapes Go.WideShapes Go.ChangeAt Go.RowKit
open SumM Mem Blk PageM Str Dev LibC DevC Stages
def ReadCap (d D W : Nat) (G : Nat → Prop) (w : World) (zs : List Int) (S' : Dv) (e : Ending) (w' : World) : Prop :=
 ∃ g cap,e = .returned (.tuple #[.slice (some ⟨g,0,none⟩) 24 cap,.int .i64 0]) ∧ w.heap.size ≤ g ∧ NRow w' g 24 .u8 zs ∧ (24 ≤ cap ∧ cap ≤ maxLen) ∧
  DevAt w' d D W (fun k => G k ∨ w.heap.size ≤ k) S' ∧ Kept (Dev.Own d D W) w w'
section
variable {w : World} {d D W : Nat} {G : Nat → Prop} {S : Dv}
set_option maxHeartbeats 1000000 in
theorem read_cap (h : DevAt w d D W G S) (k : Nat) (hk : k < S.N) (hn : (S.n : Int) < 9223372036854775807) (hb : (S.bad : Int) < 9223372036854775807) (hc : accC S = 0) :
  Calls Tryz.prog 180 #[.pointer (some ⟨d,0,none⟩),.int .i64 (k : Int)] w (ReadCap d D W G w (cur S k) (accS S)) := by
 have hN := h.size
 have HH := hid (has_any h (k : Int) (by omega) (by omega))
 have hp : hasI S (k : Int) = true := by simp [hasI,hk]
 have HA := hid (access_any h hn hb)
 rw [hc] at HA
 rw [hp] at HH
 clear hp hc
 have q22 : ∀ (w : World) (a : Option Addr) (n c n' c' : Nat),(binOp .neq 22 (.slice a n c) (.slice none n' c')).run Tryz.prog w = .ok (.bool (!a.isNone)) w := fun w a n c n' c' => run_neq_slice_nil_any w _ _ a n c n' c' Tryz.underlying22
 have HCU : Hid (cur S k = (S.wr k).getD (S.dur k)) := rfl
 clear h
 go_enter Tryz.func180,Tryz.ntmps180
 go_upto_region 8 with (first
   | (go_at_call 184;(with_reducible refine HH.out.mono ?_);rintro e w' ⟨rfl,rfl⟩)
   | (go_at_call 157;(with_reducible refine HA.out.mono ?_);rintro e w1 ⟨⟨rfl,hdev,hk⟩,hsz⟩;have HD := hid hdev;have HK := hid hk;have HZ := hid hsz;clear hdev hk hsz))
 have hd := HD.out
 have c0 := hd.c0
 have c1 := hd.c1
 obtain ⟨dv,hdr,hdi⟩ := hd.dur
 obtain ⟨wv,hwr,hwi⟩ := hd.wr
 have hdk := hdi k (by rw [accS_N];exact hk)
 have hwk := hwi k (by rw [accS_N];exact hk)
 have r0 := hdr.cell (i := k) (by rw [accS_N];exact hk)
 have r1 := hwr.cell (i := k) (by rw [accS_N];exact hk)
 rw [accS_N] at c0 c1
 rw [accS_dur] at hdk
 rw [accS_wr] at hwk
 have hkz : (k : Int) < (S.N : Int) := by omega
 clear hd hdr hdi hwr hwi HH HA
 generalize dv k = x at *
 generalize wv k = y at *
 generalize S.wr k = o at *
 generalize S.dur k = z at *
 generalize S.N = N at *
 cases o with
 | none =>
  obtain rfl : y = .slice none 0 0 := hwk
  obtain ⟨b,c,rfl,h24,hm,hsl⟩ := hdk.sl
  clear hdk
  have CL := hid (clone_any (some ⟨b,0,none⟩) 24 c w1.heap.size z w1 (by omega) (by omega) hsl)
  clear hsl
  go_wp2_with (go_at_call 80;(with_reducible refine CL.out.mono ?_);rintro e w2 ⟨g,c',rfl,hg,hrow,h1,h2,hgr⟩;have HG := hid hg;have HR := hid hrow;have HGR := hid hgr;clear hg hrow hgr)
  go_ret2
  have hz := HZ.out
  refine ⟨g,c',rfl,by rw [← hz];exact HG.out,by rw [HCU.out];exact HR.out,⟨h1,h2⟩,?_,HK.out.then HGR.out (fun _ _ x => x.elim)⟩
  have := HD.out.newer HGR.out
  rwa [hz] at this
 | some z' =>
  obtain ⟨b,c,rfl,h24,hm,hsl⟩ := Img.sl (show Img _ _ _ z' from hwk)
  clear hwk hdk
  have CL := hid (clone_any (some ⟨b,0,none⟩) 24 c w1.heap.size z' w1 (by omega) (by omega) hsl)
  clear hsl
  go_wp2_with (go_at_call 80;(with_reducible refine CL.out.mono ?_);rintro e w2 ⟨g,c',rfl,hg,hrow,h1,h2,hgr⟩;have HG := hid hg;have HR := hid hrow;have HGR := hid hgr;clear hg hrow hgr)
  go_ret2
  have hz := HZ.out
  refine ⟨g,c',rfl,by rw [← hz];exact HG.out,by rw [HCU.out];exact HR.out,⟨h1,h2⟩,?_,HK.out.then HGR.out (fun _ _ x => x.elim)⟩
  have := HD.out.newer HGR.out
  rwa [hz] at this
end
end RgR
namespace RgC
open Go.ChangeShapes Go.WideShapes Go.ChangeAt Go.RowKit
open Mem Blk Cells Orow RfP RgP RgS RgA RgB Stages
open ArM (Ar Fr fUsed)
open ArC (ArAt FR)
open Dev (Dv DevAt)
open ListM (outL frontL okO)
open HdM (Hs)
open RfM (Pl)
open RfI (InvE Inv)
open RgM (Bnd saveC saveS)
def loadC (p : Pl) (q : Nat) : Int := if Dev.readC p.D q ≠ 0 then Dev.readC p.D q else if PageM.openC q (Dev.cur p.D q) = 11 then 0 else PageM.openC q (Dev.cur p.D q)
def loadA (p : Pl) (q f : Nat) : Ar := if Dev.readC p.D q ≠ 0 then p.A else if PageM.openC q (Dev.cur p.D q) = 0 then ⟨p.A.n,p.A.F,TabM.upd p.A.B f (PageM.openB q (Dev.cur p.D q)),p.A.Q⟩ else p.A
theorem readB_cur {D : Dv} {q : Nat} (h : Dev.readC D q = 0) : Dev.readB D q = Dev.cur D q := by unfold Dev.readB;rw [if_pos h];rfl
theorem load_eq (p : Pl) (q f : Nat) : p.load (q : Int) f = if loadC p q = 0 then (((f : Int),0),⟨p.X,Dev.readS p.D q,loadA p q f,p.L⟩) else ((-1,loadC p q),(⟨p.X,Dev.readS p.D q,loadA p q f,p.L⟩ : Pl).drop f) := by
 unfold Pl.load loadC loadA
 by_cases h : Dev.readC p.D q = 0
 ·have hb := readB_cur h
  by_cases h0 : PageM.openC q (Dev.cur p.D q) = 0
  ·simp [h,hb,h0]
  ·by_cases h1 : PageM.openC q (Dev.cur p.D q) = 11
   ·simp [h,hb,h1]
   ·simp [h,hb,h0,h1]
 ·simp [h]
section
variable {w w' : World} {col col' : Nat → Nat} {ν : Nm} {H : Hs} {T : Nat → Bool}
theorem set_whole {a : Ar} {f : Nat} {q : Int} {z : List Int} (hf : f < a.n) (hF : a.F f = fUsed q) (hb : (a.B f).length = 16) (hz : z.length = 16) :
  a.setC (f : Int) 0 z = 0 ∧ (a.set (f : Int) 0 z).markC (f : Int) = 0 ∧ (a.set (f : Int) 0 z).mark (f : Int) false = ⟨a.n,a.F,TabM.upd a.B f z,a.Q⟩ := by
 have hu : a.used (f : Int) = true := ArM.used_iff.2 ⟨f,rfl,hf,by rw [hF];rfl⟩
 have e1 : a.setC (f : Int) 0 z = 0 := by unfold Ar.setC;rw [if_pos hu,if_pos ⟨by omega,by rw [hz];decide⟩]
 have e2 : ArM.splice (a.B f) 0 z = z := by unfold ArM.splice;simp [hz,hb]
 have e3 : a.set (f : Int) 0 z = ⟨a.n,TabM.upd a.F f ⟨1,q,0,true⟩,TabM.upd a.B f z,a.Q⟩ := by
  unfold Ar.set
  rw [if_pos e1,Int.toNat_natCast,hF]
  show (⟨a.n,TabM.upd a.F f ⟨1,q,0,true⟩,TabM.upd a.B f (ArM.splice (a.B f) 0 z),a.Q⟩ : Ar) = _
  rw [e2]
 have hu2 : (a.set (f : Int) 0 z).used (f : Int) = true := ArM.used_iff.2 ⟨f,rfl,by rw [e3];exact hf,by rw [e3];show (TabM.upd a.F f _ f).st = 1;rw [TabM.upd_same]⟩
 refine ⟨e1,by unfold Ar.markC;rw [if_pos hu2],?_⟩
 unfold Ar.mark
 rw [if_pos hu2,Int.toNat_natCast,e3]
 unfold Ar.turn
 dsimp only
 rw [TabM.upd_same]
 have : TabM.upd (TabM.upd a.F f ⟨1,q,0,true⟩) f ⟨1,q,0,false⟩ = a.F := by
  funext i
  by_cases e : i = f
  ·subst e;rw [TabM.upd_same,hF];rfl
  ·rw [TabM.upd_other _ _ e,TabM.upd_other _ _ e]
 rw [this]
theorem nrow_sl {g n : Nat} {zs : List Int} (h : Dev.NRow w g n .u8 zs) (hl : zs.length = n) : Sl w w.heap.size .u8 (some ⟨g,0,none⟩) n zs := Dev.Sl.of_row0 h hl h.lt
theorem open_code {q : Nat} {z : List Int} (h48 : q < 48) : PageM.openC (q : Int) z = 0 ∨ PageM.openC (q : Int) z = 11 ∨ (PageM.openC (q : Int) z ≠ 0 ∧ PageM.openC (q : Int) z ≠ 11) := by omega
set_option maxRecDepth 100000 in
set_option maxHeartbeats 1000000 in
theorem load_any {p : Pl} {h : Option Nat} {f q k : Nat} (x : MAt w col ν p.D p.A p.L H T) (i : InvE p h) (hf : f < p.A.n) (hq : q < p.X.n) (hF : p.A.F f = fUsed (q : Int)) (hl : Bnd p.D k) (hk : k ≤ 1000000) :
  Calls Tryz.prog 151 #[.pointer (some ⟨ν.r,0,none⟩),.int .i64 (f : Int),.int .i64 (q : Int)] w (Post ν w col (.int .i64 (loadC p q)) (Dev.readS p.D q) (loadA p q f) p.L H T) := by
 have c0 := x.c0
 have h48 := i.q48 hq
 have hqz : (q : Int) < 48 := by omega
 have hqN : q < p.D.N := by rw [i.dN];exact hq
 have hr : Dev.readC p.D q = Dev.accC p.D := by unfold Dev.readC Dev.hasI;rw [if_pos];simp [hqN]
 have hrs : Dev.readS p.D q = Dev.accS p.D := by unfold Dev.readS Dev.hasI;rw [if_pos];simp [hqN]
 have HX := hid x
 rcases RfM.acc_cases i.dn with ⟨hc,_⟩ | ⟨hc,_⟩
 ·have hcur := x.dev.curOk hqN
  have HRD := hid (RgR.read_cap x.dev q hqN (by have := hl.1;omega) (by have := hl.2;omega) hc)
  have HC : Hid (Dev.readC p.D q = 0) := hr.trans hc
  rw [hrs]
  rcases open_code (z := Dev.cur p.D q) h48 with ho | ho | ⟨ho,ho1⟩
  ·have E1 : Hid (loadC p q = 0) := by unfold Hid loadC;rw [if_neg (fun e => e HC.out),ho];rfl
   have E2 : Hid (loadA p q f = ⟨p.A.n,p.A.F,TabM.upd p.A.B f (PageM.openB q (Dev.cur p.D q)),p.A.Q⟩) := by unfold Hid loadA;rw [if_neg (fun e => e HC.out),if_pos ho]
   have hz : (PageM.openB (q : Int) (Dev.cur p.D q)).length = 16 := by
    unfold PageM.openB
    rw [if_pos ho,List.length_drop,hcur.1]
   obtain ⟨s1,s2,s3⟩ := set_whole hf hF (i.ga.b f) hz
   have HZ := hid hz
   have HS := hid (And.intro s1 (And.intro s2 s3))
   have HCU := hid hcur
   have HO := hid ho
   rw [E1.out,E2.out]
   clear x i hf hq hF hl hk h48 hqN hr hrs hc hcur ho E1 E2 HC hz s1 s2 s3
   go_enter Tryz.func151,Tryz.ntmps151
   go_upto_region 4 with (go_at_call 180;(with_reducible refine HRD.out.mono ?_);rintro e w1 ⟨g,c,rfl,hg,hn,⟨hc1,hc2⟩,hd,hk⟩;obtain ⟨hw1,hm1⟩ := HX.out.readD hd hk;have HW1 := hid hw1;have HM1 := hid hm1;have HOP := hid (PageC.open_is (PageC.open_good (q : Int) _ c w1.heap.size _ w1 (by omega) hqz HCU.out.2 (nrow_sl hn HCU.out.1) (Nat.le_refl _) hc1 hc2) HO.out rfl HZ.out);clear hg hn hc1 hc2 hd hk hw1 hm1)
   go_upto_region 5 with (go_at_call 30;(with_reducible refine HOP.out.mono ?_);rintro e w2 ⟨g2,c2,rfl,hg,hn,hgr⟩;have HM2 := hid (HM1.out.grow hgr);have HW2 := hid (HW1.out.trans (Went.grow hgr));have d1 := HM2.out.c1;have HSL := hid (Sl.of_blk (B := w2.heap.size) hn 8 16 (by rw [PageM.seal_len,HZ.out];omega) hn.lt);clear hg hn hgr)
   have HSE := hid (ArB.set_any HM2.out.arena (f : Int) 0 _ 16 c2 w2.heap.size _ (by have h := HSL.out;rw [PageM.seal_drop,List.take_of_length_le (by rw [HZ.out];omega)] at h;exact h) (by omega))
   rw [HS.out.1] at HSE
   clear HOP HRD
   go_upto_region 8 with (go_at_call 98;(with_reducible refine HSE.out.mono ?_);rintro e w3 ⟨rfl,hl,hk⟩;obtain ⟨c3,hw3,hm3⟩ := HM2.out.setA hl hk;have HW3 := hid hw3;have e1 := hm3.c1;have HMK := hid (ArD.mark_any hm3.arena (f : Int) false);have HM3 := hid hm3;clear hl hk hw3 hm3 d1)
   rw [HS.out.2.1] at HMK
   go_wp2_with (go_at_call 91;(with_reducible refine HMK.out.mono ?_);rintro e w4 ⟨rfl,hl,hk⟩;obtain ⟨c4,hw4,hm4⟩ := HM3.out.setA hl hk;have HW4 := hid hw4;have HM4 := hid hm4;clear hl hk hw4 hm4 e1)
   go_ret
   refine ⟨rfl,c4,(HW2.out.trans HW3.out).trans HW4.out,?_⟩
   have h4 := HM4.out
   rw [HS.out.2.2] at h4
   exact h4
  ·have E1 : Hid (loadC p q = 0) := by unfold Hid loadC;rw [if_neg (fun e => e HC.out),if_pos ho]
   have E2 : Hid (loadA p q f = p.A) := by unfold Hid loadA;rw [if_neg (fun e => e HC.out),if_neg (by rw [ho];decide)]
   have HO := hid ho
   have HCU := hid hcur
   rw [E1.out,E2.out]
   clear x i hf hq hF hl hk h48 hqN hr hrs hc hcur ho E1 E2 HC
   go_enter Tryz.func151,Tryz.ntmps151
   go_upto_region 4 with (go_at_call 180;(with_reducible refine HRD.out.mono ?_);rintro e w1 ⟨g,c,rfl,hg,hn,⟨hc1,hc2⟩,hd,hk⟩;obtain ⟨hw1,hm1⟩ := HX.out.readD hd hk;have HW1 := hid hw1;have HM1 := hid hm1;have HOP := hid (PageC.open_not (PageC.open_good (q : Int) _ c w1.heap.size _ w1 (by omega) hqz HCU.out.2 (nrow_sl hn HCU.out.1) (Nat.le_refl _) hc1 hc2) HO.out (by decide));clear hg hn hc1 hc2 hd hk hw1 hm1)
   go_wp2_with (go_at_call 30;(with_reducible refine HOP.out.mono ?_);rintro e w2 ⟨rfl,hgr⟩;have HM2 := hid (HM1.out.grow hgr);have HW2 := hid (HW1.out.trans (Went.grow hgr));clear hgr)
   go_ret
   exact ⟨rfl,_,HW2.out,HM2.out⟩
  ·obtain ⟨o,hoo⟩ : ∃ o,PageM.openC (q : Int) (Dev.cur p.D q) = o := ⟨_,rfl⟩
   rw [hoo] at ho ho1
   have E1 : Hid (loadC p q = o) := by unfold Hid loadC;rw [if_neg (fun e => e HC.out),hoo,if_neg ho1]
   have E2 : Hid (loadA p q f = p.A) := by unfold Hid loadA;rw [if_neg (fun e => e HC.out),if_neg (by rw [hoo];exact ho)]
   have HO := hid hoo
   have HO1 := hid ho
   have HCU := hid hcur
   have z0 : (o == 0) = false := by simpa using ho
   have z1 : (o == 11) = false := by simpa using ho1
   rw [E1.out,E2.out]
   clear x i hf hq hF hl hk h48 hqN hr hrs hc hcur ho ho1 hoo E1 E2 HC
   go_enter Tryz.func151,Tryz.ntmps151
   go_upto_region 4 with (go_at_call 180;(with_reducible refine HRD.out.mono ?_);rintro e w1 ⟨g,c,rfl,hg,hn,⟨hc1,hc2⟩,hd,hk⟩;obtain ⟨hw1,hm1⟩ := HX.out.readD hd hk;have HW1 := hid hw1;have HM1 := hid hm1;have HOP := hid (PageC.open_not (PageC.open_good (q : Int) _ c w1.heap.size _ w1 (by omega) hqz HCU.out.2 (nrow_sl hn HCU.out.1) (Nat.le_refl _) hc1 hc2) HO.out HO1.out);clear hg hn hc1 hc2 hd hk hw1 hm1)
   go_wp2_with (go_at_call 30;(with_reducible refine HOP.out.mono ?_);rintro e w2 ⟨rfl,hgr⟩;have HM2 := hid (HM1.out.grow hgr);have HW2 := hid (HW1.out.trans (Went.grow hgr));clear hgr)
   go_ret
   exact ⟨rfl,_,HW2.out,HM2.out⟩
 ·have E1 : Hid (loadC p q = 9) := by unfold Hid loadC;rw [hr,hc];rfl
  have E2 : Hid (loadA p q f = p.A) := by unfold Hid loadA;rw [hr,hc];rfl
  have HRD := hid (DevC.read_bad x.dev (q : Int) (by omega) (by omega) (by have := hl.1;omega) (by have := hl.2;omega) (by rw [hr,hc];decide))
  rw [hr,hc] at HRD
  rw [E1.out,E2.out]
  clear x i hf hq hF hl hk h48 hqN hr hrs hc E1 E2
  go_enter Tryz.func151,Tryz.ntmps151
  go_wp2_with (first
   | (go_at_call 180;(with_reducible refine HRD.out.mono ?_);rintro e w1 ⟨rfl,hd,hk,_⟩;obtain ⟨c1,hw1,hm1⟩ := HX.out.setD hd hk;have HW1 := hid hw1;have HM1 := hid hm1;clear hd hk hw1 hm1)
   | (go_at_call 103;(with_reducible refine (heard9 _).mono ?_);rintro e w6 ⟨rfl,rfl⟩))
  go_ret
  exact ⟨rfl,c1,HW1.out,HM1.out⟩
end
end RgC
namespace Back
open Go.RowKit Go.Shelf
open Mem Blk
attribute [local go_sem] Oper.semAt_some
def come {α : Type} (n : Nat) (g : Nat → α) (k : Nat) : List α := (List.range k).map fun j => g (n - 1 - j)
theorem come_succ {α : Type} (n : Nat) (g : Nat → α) (k : Nat) : come n g (k + 1) = come n g k ++ [g (n - 1 - k)] := by simp [come,List.range_succ]
theorem come_length {α : Type} (n : Nat) (g : Nat → α) (k : Nat) : (come n g k).length = k := by simp [come]
abbrev Pl (len : Nat) : Type := { m : Nat // m ≤ len - 1 }
def plOf (len m : Nat) : Pl len := ⟨min m (len - 1),Nat.min_le_right _ _⟩
def encP (zs : List Int) {len : Nat} (x : Pl len) : Array Value := #[.int .i64 (x.1 : Int),.int .i64 (zs.getD x.1 0)]
theorem encP_at (zs : List Int) {len m : Nat} (h : m < len) : encP zs (plOf len m) = #[.int .i64 (m : Int),.int .i64 (zs.getD m 0)] := by
 unfold encP plOf
 dsimp only
 rw [Nat.min_eq_left (by omega)]
set_option maxRecDepth 100000 in
set_option maxHeartbeats 2000000 in
theorem back1_in {α : Type} (g : Nat → α) (encs : α → Array Value) (F : Fence) (n : Nat) (hf : F.fn 208) (hro : F.round = none) (hn : 1 ≤ n) (l Bs n₀ b off len cap : Nat) (zs : List Int) (hlen : len ≤ 1000) (hb : b < n₀) (hg : ∀ m,m < len → encs (g m) = #[.int .i64 (m : Int),.int .i64 (zs.getD m 0)]) (J Jx : List α → World → Prop)
  (hY : ∀ pre x W,J pre W → pre.length < len → YieldAt F (n - 1) Tryz.prog l (encs x) W fun e W' =>
    (e = .returned (.bool true) ∧ J (pre ++ [x]) W' ∧ Below n₀ W W') ∨ (e = .returned (.bool false) ∧ Jx (pre ++ [x]) W'))
  (W : World) (hBs : W.cell? ⟨Bs,0,none⟩ = some (.slice (some ⟨b,off,none⟩) len cap)) (hBn : Bs < n₀) (hc : ∀ j,j < len → W.cell? ⟨b,off + j,none⟩ = some (.int .i64 (zs.getD j 0))) (h0 : J [] W) :
  CallsIn F n Tryz.prog 208 #[.func (.yield l) #[] #[],.pointer (some ⟨Bs,0,none⟩)] W fun e W' => (∃ v,e = .returned v) ∧
   ((∃ ys,ys = come len g len ∧ J ys W') ∨ (∃ pre,(∃ k,k ≤ len ∧ pre = come len g k) ∧ Jx pre W')) := by
 have hlz : (len : Int) ≤ 1000 := by omega
 refine callsIn_of_wp Tryz.func208 rfl hf ?_ hro
 simp only [Tryz.ntmps208,List.size_toArray,List.length_cons,List.length_nil,Nat.reduceAdd,Nat.reduceSub,Array.replicate_succ,Array.replicate_zero,List.push_toArray,List.append_toArray,List.nil_append,List.cons_append]
 gi_wp2
 gi_loopw [3] (fun i wr => ∃ (m : Nat) (t : Int),i = .int .i64 t ∧ t = (m : Int) - 1 ∧ m ≤ len ∧ J (come len g (len - m)) wr ∧ Below n₀ W wr)
  (fun i _ => (intOf i + 1).toNat)
 case atStart => exact ⟨len,_,rfl,rfl,Nat.le_refl _,by rw [Nat.sub_self];exact h0,Below.refl _ _⟩
 case round =>
  obtain ⟨m,t,rfl,ht,hm,hJs,hnx⟩ := hrel
  have hbx := (hnx.cell (p := ⟨Bs,0,none⟩) hBn).trans hBs
  cases m with
  | zero =>
   have ht0 : t < 0 := by omega
   rw [Nat.sub_zero] at hJs
   clear ht
   gi_wp2
   go_end0
   exact ⟨⟨_,rfl⟩,.inl ⟨_,rfl,hJs⟩⟩
  | succ m =>
   obtain rfl : t = (m : Int) := by omega
   have hmz : (m : Int) < (len : Int) := by omega
   have hcx : wr.cell? ⟨b,off + m,none⟩ = some (.int .i64 (zs.getD m 0)) := (hnx.cell (p := ⟨b,off + m,none⟩) hb).trans (hc m (by omega))
   have hsu := come_succ len g (len - (m + 1))
   rw [show len - 1 - (len - (m + 1)) = m by omega,show len - (m + 1) + 1 = len - m by omega] at hsu
   obtain ⟨fn,tmps,assign,body,hy,hR⟩ := hY _ (g m) wr hJs (by rw [come_length];omega)
   rw [hg m (by omega)] at hy
   rw [← hsu] at hR
   clear hc ht hJs hY hg
   generalize zs.getD m 0 = x at hcx hy
   gi_wp2
   refine hR.mono ?_
   rintro e W3 (⟨rfl,hJ3,hk3⟩ | ⟨rfl,hJx3⟩)
   ·gi_wp2
    go_roundw
    case rel => exact ⟨m,_,rfl,by omega,by omega,hJ3,hnx.trans hk3⟩
    case measure => simp [intOf]
   ·gi_wp2
    refine bodyPost_ret (results_none rfl _ _ _) rfl ?_
    exact ⟨⟨_,rfl⟩,.inr ⟨_,⟨len - m,by omega,rfl⟩,hJx3⟩⟩
set_option maxRecDepth 100000 in
set_option maxHeartbeats 1000000 in
theorem back1_nil_in (F : Fence) (n : Nat) (hf : F.fn 208) (hro : F.round = none) (l Bs cap : Nat) (A : Option Addr) {α : Type} (J : List α → World → Prop) (W : World) (hBs : W.cell? ⟨Bs,0,none⟩ = some (.slice A 0 cap)) (h0 : J [] W) :
  CallsIn F n Tryz.prog 208 #[.func (.yield l) #[] #[],.pointer (some ⟨Bs,0,none⟩)] W fun e W' => (∃ v,e = .returned v) ∧ J [] W' := by
 refine callsIn_of_wp Tryz.func208 rfl hf ?_ hro
 simp only [Tryz.ntmps208,List.size_toArray,List.length_cons,List.length_nil,Nat.reduceAdd,Nat.reduceSub,Array.replicate_succ,Array.replicate_zero,List.push_toArray,List.append_toArray,List.nil_append,List.cons_append]
 gi_wp2
 gi_loopw [3] (fun i wr => i = .int .i64 (-1) ∧ J [] wr) (fun _ _ => 0)
 case atStart => exact ⟨rfl,h0⟩
 case round =>
  obtain ⟨rfl,hJs⟩ := hrel
  gi_wp2
  go_end0
  exact ⟨⟨_,rfl⟩,hJs⟩
theorem back_in (A : Option Addr) (len cap : Nat) (w : World) :
  Calls Tryz.prog 193 #[.slice A len cap] w fun e w' => e = .returned (.func (.func 208) #[] #[.pointer (some ⟨w.heap.size,0,none⟩)]) ∧ w' = w.alloc (.cells #[.slice A len cap] 33) := by
 go_enter Tryz.func193,Tryz.ntmps193
 go_wp2
 go_ret
 exact ⟨rfl,rfl⟩
theorem back_stops (F : Fence) (n : Nat) (hf : F.fn 208) (hro : F.round = none) (hn : 1 ≤ n) (Bs n₀ len cap : Nat) (A : Option Addr) (zs : List Int) (hlen : len ≤ 1000) (w : World) (hBs : Bs < n₀) (hn₀ : n₀ ≤ w.heap.size)
  (hc : w.cell? ⟨Bs,0,none⟩ = some (.slice A len cap)) (hI : Sl w n₀ .i64 A len zs) :
  SeqStopsK F n Tryz.prog 208 #[.pointer (some ⟨Bs,0,none⟩)] (encP zs (len := len)) (Below n₀) (fun ys => ys = come len (plOf len) len)
   (fun pre => ∃ k,k ≤ len ∧ pre = come len (plOf len) k) len w := fun l J Jx W hW _ _ hY h0 => by
 have hc' := (hW.cell (p := ⟨Bs,0,none⟩) (Nat.lt_of_lt_of_le hBs hn₀)).trans hc
 by_cases h : len = 0
 ·subst h
  exact (back1_nil_in F n hf hro l Bs cap A J W hc' h0).mono fun e W' ⟨he,hj⟩ => ⟨he,.inl ⟨_,rfl,hj⟩⟩
 ·obtain ⟨b,off,rfl,hb,hcs⟩ := hI.at_ (by omega)
  exact back1_in (plOf len) (encP zs) F n hf hro hn l Bs n₀ b off len cap zs hlen hb (fun m hm => encP_at zs hm) J Jx hY W hc' hBs (fun j hj => (hW.cell (p := ⟨b,off + j,none⟩) (Nat.lt_of_lt_of_le hb hn₀)).trans (hcs j hj)) h0
end Back
namespace RgO
open Go.ChangeShapes Go.WideShapes Go.ChangeAt Go.RowKit Go.Shelf
open Mem Blk Cells Orow RfP RgP RgS RgA RgB Stages Back
open ArM (Ar Fr)
open ArC (ArAt FR)
open Dev (Dv DevAt)
open ListM (outL frontL okO ints)
open HdM (Hs)
open RfM (Pl)
open RfI (InvE Inv)
attribute [local go_sem] Oper.semAt_some
def oldV (F : Nat → Fr) (L : List Nat) : Option Nat := (L.filter fun f => decide ((F f).pn = 0)).getLast?
def oldI (F : Nat → Fr) (L : List Nat) : Int := match oldV F L with | none => -1 | some v => (v : Int)
theorem oldV_find (F : Nat → Fr) (L : List Nat) : oldV F L = L.reverse.find? fun f => decide ((F f).pn = 0) := by
 unfold oldV
 rw [List.getLast?_eq_head?_reverse,← List.filter_reverse,List.head?_filter]
def fv (L : List Nat) (x : Pl L.length) : Nat := L.getD x.1 0
theorem fv_at (L : List Nat) {m : Nat} (h : m < L.length) : fv L (plOf _ m) = L.getD m 0 := by
 unfold fv plOf
 dsimp only
 rw [Nat.min_eq_left (by omega)]
theorem rev_at (zs : List Nat) {j : Nat} (h : j < zs.length) : zs.reverse[j]? = some (zs.getD (zs.length - 1 - j) 0) := by
 rw [List.getElem?_reverse h,List.getD_eq_getElem?_getD,List.getElem?_eq_getElem (by omega)]
 rfl
theorem old_stop {F : Nat → Fr} {L : List Nat} {k : Nat} {ini : List (Pl L.length)} {last : Pl L.length} (hk : k ≤ L.length) (e : come L.length (plOf _) k = ini ++ [last]) (h1 : ∀ y ∈ ini,(F (fv L y)).pn ≠ 0) (h2 : (F (fv L last)).pn = 0) : oldV F L = some (fv L last) := by
 cases k with
 | zero => simp [come] at e
 | succ k =>
  rw [come_succ] at e
  obtain ⟨e1,e2⟩ := List.append_inj' e rfl
  have e2 : plOf L.length (L.length - 1 - k) = last := by simpa using e2
  have e3 : fv L last = L.getD (L.length - 1 - k) 0 := by rw [← e2,fv_at L (by omega)]
  rw [oldV_find,List.find?_eq_some_iff_append]
  refine ⟨decide_eq_true h2,L.reverse.take k,L.reverse.drop (k + 1),?_,fun y hy => ?_⟩
  ·have hkl : k < L.reverse.length := by simp;omega
   have h := rev_at L (j := k) (by omega)
   rw [e3]
   rw [List.getElem?_eq_getElem hkl] at h
   injection h with h
   rw [← h,← List.drop_eq_getElem_cons hkl,List.take_append_drop]
  ·obtain ⟨j,hj,hy⟩ := List.getElem_of_mem hy
   have hjk : j < k := by rw [List.length_take] at hj;omega
   have h := rev_at L (j := j) (by omega)
   rw [List.getElem_take] at hy
   rw [List.getElem?_eq_getElem (by simp;omega),hy] at h
   injection h with h
   have := h1 (plOf _ (L.length - 1 - j)) (by
    rw [← e1]
    unfold come
    exact List.mem_map.2 ⟨j,List.mem_range.2 hjk,rfl⟩)
   rw [fv_at L (by omega),← h] at this
   rw [decide_eq_false this]
   rfl
theorem old_done {F : Nat → Fr} {L : List Nat} (h1 : ∀ y ∈ come L.length (plOf _) L.length,(F (fv L y)).pn ≠ 0) : oldV F L = none := by
 rw [oldV_find,List.find?_eq_none]
 intro f hf
 rw [List.mem_reverse] at hf
 obtain ⟨j,hj,rfl⟩ := List.getElem_of_mem hf
 have := h1 (plOf _ j) (by
  unfold come
  refine List.mem_map.2 ⟨L.length - 1 - j,List.mem_range.2 (by omega),?_⟩
  rw [show L.length - 1 - (L.length - 1 - j) = j by omega])
 rw [fv_at L hj,List.getD_eq_getElem?_getD,List.getElem?_eq_getElem hj] at this
 simp only [Option.getD_some] at this
 rw [decide_eq_false this]
 simp
theorem os_sl {w : World} {G : Nat → Prop} {v : Value} {t : TypeId} {s n : Nat} {f : Nat → Value} (h : OS w G v t s n f) : ∃ A c,v = .slice A n c ∧ (0 < n → ∃ g,A = some ⟨g,0,none⟩ ∧ OR w g t s c n f ∧ G g) := by
 rcases h with ⟨e,h0⟩ | ⟨g,c,e,ho,hg⟩
 ·exact ⟨none,0,by rw [e,h0],fun h => by omega⟩
 ·exact ⟨_,c,e,fun _ => ⟨g,rfl,ho,hg⟩⟩
theorem keepsFrom_of {N : Nat} {W W' : World} {F : Nat → Prop} (h : Kept F W W') (hF : ∀ k,F k → k < N) : KeepsFrom N W W' :=
 ⟨h.size,fun k o hN hk _ => (h.block k (Array.getElem?_eq_some_iff.1 hk).1 fun x => by have := hF k x;omega).trans hk⟩
section
variable {w w' : World} {col col' : Nat → Nat} {ν : Nm} {S : Dv} {A : Ar} {L : List Nat} {H : Hs} {T : Nat → Bool}
set_option maxRecDepth 100000 in
set_option maxHeartbeats 4000000 in
theorem oldest_any (x : MAt w col ν S A L H T) (hu : ∀ f ∈ L,f < A.n) (hn : A.n ≤ 32) (hL : L.length ≤ 32) :
  Calls Tryz.prog 177 #[.pointer (some ⟨ν.r,0,none⟩)] w fun e w' => e = .returned (.int .i64 (oldI A.F L)) ∧ Grow w w' := by
 have c1 := x.c1
 have c3 := x.c3
 have CF : Hid (∀ wx,Grow w wx → Calls Tryz.prog 48 #[.pointer (some ⟨ν.a,0,none⟩)] wx (ArB.FramesPost A wx)) := fun wx hg => ArB.frames_any (x.grow hg).arena
 have CA : Hid (∀ wx,Grow w wx → Calls Tryz.prog 86 #[.pointer (some ⟨ν.b,0,none⟩)] wx fun e w' => ∃ A cp,e = .returned (.slice A L.length cp) ∧ Sl w' w'.heap.size .i64 A L.length (ints L) ∧ (∀ x,A = some x → wx.heap.size ≤ x.block) ∧ Grow wx w') := fun wx hg => ListD.all_any (x.grow hg).order
 clear x
 refine (callsIn_wide (n := 6)).1 ?_
 refine callsIn_of_wp_marks Tryz.func177 rfl trivial (wpIn_wide.2 ?_) rfl
 simp only [Tryz.ntmps177,List.size_toArray,List.length_cons,List.length_nil,Nat.reduceAdd,Nat.reduceSub,Array.replicate_succ,Array.replicate_zero,List.push_toArray,List.append_toArray,List.nil_append,List.cons_append]
 have HBS := hid (Blk.new w 3 [.int .i64 (-1)])
 have HG0 : Hid (Grow w (w.alloc (.cells #[.int .i64 (-1)] 3))) := (Kept.refl _ w).alloc _
 go_wp2
 go_step3
 go_upto_region 2 with (fail)
 obtain ⟨n3,hn3⟩ : ∃ n3,w.heap.size = n3 := ⟨_,rfl⟩
 rw [hn3] at HBS
 have HN3 := hid hn3
 generalize w.alloc (.cells #[.int .i64 (-1)] 3) = W0 at *
 rw [hn3]
 clear hn3
 have HCF := hid (CF.out _ HG0.out)
 have c1' := HG0.out.cellN c1 id
 have c3' := HG0.out.cellN c3 id
 clear c1 c3 CF
 go_upto_region 3 with (go_at_call 48;(with_reducible refine HCF.out.mono ?_);rintro e W1 ⟨v,rfl,hos,hg⟩;obtain ⟨A7,c7,rfl,ho⟩ := os_sl hos;have HOR := hid ho;have HG1 := hid hg;clear hos hg ho)
 have HB4 := hid (Blk.new W1 31 [.slice A7 A.n c7])
 have HG1' : Hid (Grow W1 (W1.alloc (.cells #[.slice A7 A.n c7] 31))) := (Kept.refl _ _).alloc _
 have HL4 : Hid (W1.heap.size < (W1.alloc (.cells #[.slice A7 A.n c7] 31)).heap.size) := by show _ < _;simp
 obtain ⟨n4,hn4⟩ : ∃ n4,W1.heap.size = n4 := ⟨_,rfl⟩
 rw [hn4] at HB4 HL4 ⊢
 have HN4 := hid hn4
 clear hn4
 generalize W1.alloc (.cells #[.slice A7 A.n c7] 31) = W2 at HB4 HG1' HL4 ⊢
 have HG2 : Hid (Grow W0 W2) := HG1.out.trans HG1'.out
 have HOR2 : Hid (0 < A.n → ∃ g,A7 = some ⟨g,0,none⟩ ∧ OR W2 g 36 5 c7 A.n (ArC.fcell A.F) ∧ W0.heap.size ≤ g) := fun h => by
  obtain ⟨g,e,ho,hg⟩ := HOR.out h
  exact ⟨g,e,ho.grow HG1'.out,hg⟩
 have HB3 := hid (HBS.out.grow HG2.out)
 clear HOR HBS c1' HCF
 have c3 := HG2.out.cellN c3' id
 clear c3'
 have HCA := hid (CA.out _ (HG0.out.trans HG2.out))
 clear CA
 go_step3
 go_wp2_with (first
  | (go_at_call 86;(with_reducible refine HCA.out.mono ?_);rintro e W3 ⟨AL,cp,rfl,hs,hn,hg⟩;have HSL := hid hs;have HAN := hid hn;have HG3 := hid hg;clear hs hn hg)
  | (go_at_call 193;(with_reducible refine (back_in _ _ _ _).mono ?_);rintro e W4 ⟨rfl,rfl⟩))
 obtain ⟨n8,hn8⟩ : ∃ n8,W3.heap.size = n8 := ⟨_,rfl⟩
 have HB8 := hid (Blk.new W3 33 [.slice AL L.length cp])
 have HG3' : Hid (Grow W3 (W3.alloc (.cells #[.slice AL L.length cp] 33))) := (Kept.refl _ _).alloc _
 have HL8 : Hid (n8 + 1 = (W3.alloc (.cells #[.slice AL L.length cp] 33)).heap.size) := by show _ = _;rw [← hn8];simp
 rw [hn8] at HB8 ⊢
 generalize W3.alloc (.cells #[.slice AL L.length cp] 33) = W4 at HB8 HG3' HL8 ⊢
 have HG4 : Hid (Grow W2 W4) := HG3.out.trans HG3'.out
 have HGW : Hid (Grow w W4) := (HG0.out.trans HG2.out).trans HG4.out
 have HB34 := hid (HB3.out.grow HG4.out)
 have HB44 := hid (HB4.out.grow HG4.out)
 have HOR4 : Hid (0 < A.n → ∃ g,A7 = some ⟨g,0,none⟩ ∧ OR W4 g 36 5 c7 A.n (ArC.fcell A.F) ∧ W0.heap.size ≤ g) := fun h => by
  obtain ⟨g,e,ho,hg⟩ := HOR2.out h
  exact ⟨g,e,ho.grow HG4.out,hg⟩
 have HSL4 : Hid (Sl W4 (n8 + 1) .i64 AL L.length (ints L)) := by
  have h1 := Sl.kept HSL.out HG3'.out (Nat.le_refl _) (fun _ _ x => x)
  rw [hn8] at h1
  exact h1.more (by omega)
 have HM3 : Hid (n3 < W4.heap.size) := HB34.out.lt
 have HU := hid hu
 have HNW : Hid (w.heap.size ≤ n3) := by have := HN3.out;show _ ≤ _;omega
 clear c3 HCA HB3 HB4 HOR2 HSL hu hn8
 refine (wpIn_wide (n := 6)).1 ?_
 rw [show n8 + 1 = W4.heap.size from HL8.out] at HSL4
 refine wpIn_rangeFunc_ownG rfl (by omega) (gf := 208) (lb := #[.pointer (some ⟨n8,0,none⟩)]) rfl trivial (enters_of Tryz.func208 (by kernel_rfl) rfl)
  (back_stops Fence.wide _ trivial rfl (by omega) n8 W4.heap.size L.length cp AL (ints L) (by omega) W4 (by have := HL8.out;omega) (Nat.le_refl _) (by have := HB8.out.cell 0;simpa using this) HSL4.out) belowK_t (belowK_b (Nat.le_refl _)) (Below.refl _ _) (fun _ => rfl)
  (fun pre W => (∀ y ∈ pre,(A.F (fv L y)).pn ≠ 0) ∧ Below W4.heap.size W4 W)
  (fun cc pre W => (cc = .exit 0 ∧ ∃ ini last,pre = ini ++ [last] ∧ (∀ y ∈ ini,(A.F (fv L y)).pn ≠ 0) ∧ (A.F (fv L last)).pn = 0 ∧ ∃ W5,Blk W5 n3 3 [.int .i64 (fv L last : Int)] ∧ Kept (· = n3) W4 W5 ∧ Below W4.heap.size W5 W))
  (fun s X Y row hs hg hr => ⟨hs.1,hs.2.grown hg hs.2.size (fun k e => (hr k e).1)⟩)
  (fun cc s X Y row hs hg hr => by
    obtain ⟨h1,ini,last,h2,h3,h4,W5,h5,h6,h7⟩ := hs
    exact ⟨h1,ini,last,h2,h3,h4,W5,h5,h6,h7.grown hg (Nat.le_trans h6.size h7.size) (fun k e => (hr k e).1)⟩)
  ⟨fun y hy => (by cases hy),Below.refl _ _⟩
  (fun x => { tmps := #[.pointer (some ⟨ν.r,0,none⟩),undef,.int .i64 0,.pointer (some ⟨n3,0,none⟩),.pointer (some ⟨n4,0,none⟩),undef,.int .i64 ((ints L).getD x.1 0),.pointer (some ⟨ν.r,0,none⟩),.pointer (some ⟨ν.r,0,none⟩),.pointer (some ⟨ν.r,1,none⟩),.pointer (some ⟨ν.a,0,none⟩),.slice A7 A.n c7,.pointer (some ⟨ν.r,0,none⟩),.pointer (some ⟨ν.r,0,none⟩),.pointer (some ⟨ν.r,3,none⟩),.pointer (some ⟨ν.b,0,none⟩),.slice AL L.length cp,.func (.func 208) #[] #[.pointer (some ⟨n8,0,none⟩)],.int .i64 (x.1 : Int),.int .i64 ((ints L).getD x.1 0),undef,undef,undef,undef,undef,undef,undef,undef],defers := [] }) ?assign ?body ?done ?stop
 case assign =>
  intro l x W K hK
  unfold encP
  gi_wp2
  exact hK
 case body =>
  rintro l pre x W ⟨hpre,hbW⟩ hlt
  have HPRE := hid hpre
  have HGB : Hid (Grow W4 W) := Kept.of_below hbW
  have HBW := hid hbW
  rw [ListM.ints_get]
  have hfx : fv L x = L.getD x.1 0 := rfl
  have hmem : L.getD x.1 0 ∈ L := by
   have := x.2
   rw [List.getD_eq_getElem?_getD,List.getElem?_eq_getElem (by omega)]
   exact List.getElem_mem _
  have hfn := HU.out _ hmem
  obtain ⟨g,rfl,ho,hg0⟩ := HOR4.out (by omega)
  have HB3W := hid (HB34.out.grow HGB.out)
  have HB4W := HB44.out.grow HGB.out
  have hoW := ho.grow HGB.out
  have k4 := HB4W.cell 0
  simp only [List.getElem?_cons_zero] at k4
  have f2 := FR.c2 hoW hfn
  have z3 := HB3W.out.frozen 0
  have r3 := HB3W.out.cell 0
  simp only [List.getElem?_cons_zero] at r3
  have HFX := hid hfx
  clear hpre hbW hfx hmem ho hoW HOR4 HB4W
  generalize L.getD x.1 0 = f at *
  have hfz : (f : Int) < (A.n : Int) := by omega
  have hnz : (A.n : Int) ≤ 32 := by omega
  by_cases hp : (A.F f).pn = 0
  ·have HP := hid hp
   rw [hp] at f2
   clear hp
   gi_wp2
   have HK := hid (kept_set W n3 0 (.int .i64 (f : Int)))
   refine ⟨keepsFrom_of HK.out fun k e => ?_,rfl,pre,x,rfl,HPRE.out,by rw [HFX.out];exact HP.out,_,?_,(Grow.kept HGB.out).trans HK.out,Below.refl _ _⟩
   ·rw [e];exact HM3.out
   ·rw [HFX.out];exact Blk.set HB3W.out 0 _
  ·have HP := hid hp
   have hpb : ((A.F f).pn == 0) = false := by simpa using hp
   generalize (A.F f).pn = pn at f2 hp hpb
   gi_wp2
   refine ⟨KeepsFrom.refl _ _,Below.refl _ _,fun y hy => ?_,HBW.out⟩
   rcases List.mem_append.1 hy with hy | hy
   ·exact HPRE.out y hy
   ·simp at hy;subst hy;rw [HFX.out];exact HP.out
 case done =>
  rintro D ys W hD rfl ⟨hall,hbW⟩ hK
  have HV : Hid (oldI A.F L = -1) := by unfold Hid oldI;rw [old_done hall]
  have HGB : Hid (Grow W4 W) := Kept.of_below hbW
  have hbx := HB34.out.grow HGB.out
  have r3 := hbx.cell 0
  simp only [List.getElem?_cons_zero] at r3
  have HK := hid hK
  clear hall hbx hK
  go_wp2
  rw [Exit.noGoto_ret]
  refine ⟨by simp,.inl ⟨_,_,rfl,run_takeDeferred HK.out,?_⟩⟩
  rw [HV.out]
  have kD : Kept (· = D) W (W.putObj D (.deferred none)) := (Kept.refl _ W).grown (grownBy_putObj' W D _) fun k e _ => by cases e;rfl
  have hs := HGW.out.size
  refine ⟨.int .i64 (-1),?_,rfl,(HGW.out.trans HGB.out).then kD fun k h1 h2 => by omega⟩
  simp [results,Tryz.f177,go_sem]
 case stop =>
  rintro D cc pre W hD ⟨k,hk,rfl⟩ ⟨rfl,ini,last,e1,h1,h2,W5,hB5,hk5,hb5⟩ hK
  have hv := old_stop hk e1 h1 h2
  generalize fv L last = f at *
  have HV : Hid (oldI A.F L = (f : Int)) := by unfold Hid oldI;rw [hv]
  have kb : Kept (W4.heap.size ≤ ·) W5 W := ⟨hb5.os,hb5.tape,hb5.output,hb5.size,fun k hk x => hb5.block k (by omega)⟩
  have hbx := hB5.kept kb fun x => by have := HM3.out;omega
  have r3 := hbx.cell 0
  simp only [List.getElem?_cons_zero] at r3
  have HK := hid hK
  refine (wpIn_wide (n := 6)).2 ?_
  clear hK e1 h1 h2 hv
  go_wp2
  rw [Exit.noGoto_ret]
  refine ⟨by simp,.inl ⟨_,_,rfl,run_takeDeferred HK.out,?_⟩⟩
  rw [HV.out]
  have kD : Kept (· = D) W (W.putObj D (.deferred none)) := (Kept.refl _ W).grown (grownBy_putObj' W D _) fun k e _ => by cases e;rfl
  have hs := HGW.out.size
  refine ⟨.int .i64 (f : Int),?_,rfl,((HGW.out.then hk5 fun k h1 h2 => by have := HNW.out;omega).then kb fun k h1 h2 => by have := HGW.out.size;omega).then kD fun k h1 h2 => by omega⟩
  simp [results,Tryz.f177,go_sem]
end
end RgO
namespace ArT
open Go.ChangeShapes Go.WideShapes Go.ChangeAt Go.RowKit
open Mem Blk Cells Orow GsC TabM ArM ArC ArD ArB Stages
section
variable {w w' : World} {G H F : Nat → Prop} {d g cap dl Dl dt Dt : Nat} {T : Tb} {a : Ar}
theorem take_bad (h : ArAt w G d a) (p : Int) (hc : a.can p = false) : Calls Tryz.prog 147 #[.pointer (some ⟨d,0,none⟩),.int .i64 p] w fun e w' => e = .returned (.int .i64 (-1)) ∧ w = w' := by
 have HF := hid (find_any h p)
 by_cases h0 : p < 0
 ·clear h hc
  go_enter Tryz.func147,Tryz.ntmps147
  go_wp2
  go_ret
  exact ⟨rfl,rfl⟩
 ·have h0' : 0 ≤ p := by omega
  by_cases h1 : 48 ≤ p
  ·clear h hc h0
   go_enter Tryz.func147,Tryz.ntmps147
   go_wp2
   go_ret
   exact ⟨rfl,rfl⟩
  ·have h1' : p < 48 := by omega
   have h2 : 0 ≤ a.find p := by
    have : ¬ a.find p < 0 := fun x => by
     unfold Ar.can at hc
     rw [decide_eq_true h0',decide_eq_true h1',decide_eq_true x] at hc
     cases hc
    omega
   have h3 : (a.find p != -1) = true := by
    have : (a.find p == -1) = false := by rw [beq_eq_false_iff_ne];omega
    unfold bne;rw [this];rfl
   clear h hc h0 h1
   generalize a.find p = q at *
   go_enter Tryz.func147,Tryz.ntmps147
   go_wp2_with (go_at_call 102;(with_reducible refine HF.out.mono ?_);rintro e w' ⟨rfl,rfl⟩)
   go_ret
   exact ⟨rfl,rfl⟩
theorem can_find {p : Int} (h : a.can p = true) : 0 ≤ p ∧ p < 48 ∧ a.find p = -1 := by
 simp only [Ar.can,Bool.and_eq_true,decide_eq_true_eq] at h
 refine ⟨h.1.1,h.1.2,?_⟩
 rcases find_cases a p with h' | ⟨x,_,_,_,e⟩
 ·exact h'.1
 ·omega
theorem take_none (h : ArAt w G d a) (p : Int) (hc : a.can p = true) (hq : a.Q = []) : Calls Tryz.prog 147 #[.pointer (some ⟨d,0,none⟩),.int .i64 p] w fun e w' => e = .returned (.int .i64 (-1)) ∧ w = w' := by
 have HF := hid (find_any h p)
 obtain ⟨h0,h1,h2⟩ := can_find hc
 rw [h2] at HF
 rcases h.mem with h' | ⟨g,cap,dl,Dl,dt,Dt,T,hb⟩
 ·have c1 := h'.h1
  clear h hc h' h2
  go_enter Tryz.func147,Tryz.ntmps147
  go_wp2_with (first
   | (go_at_call 102;(with_reducible refine HF.out.mono ?_);rintro e w' ⟨rfl,rfl⟩)
   | (go_at_call 178;(with_reducible refine ListC.first_nil.mono ?_);rintro e w' ⟨rfl,rfl⟩))
  go_ret
  exact ⟨rfl,rfl⟩
 ·have c1 := hb.h1
  have HL := hid (ListC.first_any hb.li)
  rw [hq] at HL
  clear h hc hb h2
  go_enter Tryz.func147,Tryz.ntmps147
  go_wp2_with (first
   | (go_at_call 102;(with_reducible refine HF.out.mono ?_);rintro e w' ⟨rfl,rfl⟩)
   | (go_at_call 178;(with_reducible refine HL.out.mono ?_);rintro e w' ⟨rfl,rfl⟩))
  go_ret
  exact ⟨rfl,rfl⟩
set_option maxHeartbeats 2000000 in
theorem take_good (h : ArAt w G d a) (p : Int) (hc : a.can p = true) (f : Nat) (q : List Nat) (hq : a.Q = f :: q) : Calls Tryz.prog 147 #[.pointer (some ⟨d,0,none⟩),.int .i64 p] w (APost G d w (.int .i64 (f : Int)) ⟨a.n,upd a.F f (fUsed p),upd a.B f zeros,q⟩) := by
 obtain ⟨hf,hs,_,_⟩ := h.good.head hq
 have HG := hid (h.good.takeF hc hq)
 have HF := hid (find_any h p)
 have hn32 := h.good.n
 obtain ⟨g,cap,dl,Dl,dt,Dt,T,hb⟩ := ArAt.big h (by omega)
 obtain ⟨h0,h1,h2⟩ := can_find hc
 rw [h2] at HF
 have HFI := hid (ListC.first_any hb.li)
 have HO := hid (ListD.out_good hb.li f (by rw [hq];simp))
 rw [show a.Q.erase f = q by rw [hq,List.erase_cons_head]] at HO
 obtain ⟨t1,t2⟩ := hb.ts.put (B' := upd a.B f zeros) (Q' := q) h.good hf (by omega) hc
 have HT := hid t2
 have HPUT : Hid (∀ w1,TabC.TabAt w1 dt Dt T → Calls Tryz.prog 179 #[.pointer (some ⟨dt,0,none⟩),.int .i64 p,.int .i64 (f : Int)] w1 (TabO.TabPost dt Dt w1 0 (T.put p (f : Int)))) := fun w1 ht => by
  have := TabO.put_any ht p (f : Int)
  rwa [t1] at this
 have HI := hid hb.core
 have HP := hid hb.pos
 have HBL := hid h.good.b
 have HFE : Hid (∀ w1,Core w1 G d g cap dl Dl dt Dt (T.put p (f : Int)) ⟨a.n,a.F,a.B,q⟩ → FR (setF w1 g f (fUsed p)) g cap a.n (upd a.F f (fUsed p))) := fun w1 h1 => FR.setF h1.fr f (fUsed p)
 have c1 := hb.h1
 have hfz : (f : Int) < (a.n : Int) := by omega
 have hnz : (a.n : Int) ≤ 32 := by omega
 have hfe : ((f : Int) == -1) = false := by rw [beq_eq_false_iff_ne];omega
 generalize hfst : ListM.first a.Q = ff at *
 have hff : ff = (f : Int) := by rw [← hfst,hq];rfl
 subst hff
 clear hfst h hc hb h2 t1 t2 hq hs
 generalize T.put p (f : Int) = T2 at *
 go_enter Tryz.func147,Tryz.ntmps147
 go_upto_region 9 with (first
  | (go_at_call 102;(with_reducible refine HF.out.mono ?_);rintro e w' ⟨rfl,rfl⟩)
  | (go_at_call 178;(with_reducible refine HFI.out.mono ?_);rintro e w' ⟨rfl,rfl⟩)
  | (go_at_call 153;(with_reducible refine HO.out.mono ?_);rintro e w1 ⟨rfl,hl,hk⟩;have H1 := hid (HI.out.lst hl hk);have HK1 := hid (HI.out.kl hk);clear hl hk c1;have c2 := H1.out.h2)
  | (go_at_call 179;(with_reducible refine (HPUT.out _ H1.out.ta).mono ?_);rintro e w2 ⟨rfl,ht,hk⟩;have H2 := hid (H1.out.tab ht hk);have HK2 := hid (HI.out.kt hk);clear ht hk c2;have c0 := H2.out.h0;have f0 := FR.c0 H2.out.fr hf;have f1 := FR.c1 H2.out.fr hf;have f2 := FR.c2 H2.out.fr hf;have f3 := FR.c3 H2.out.fr hf;have f4 := FR.c4 H2.out.fr hf;have fz := H2.out.fr.frozen))
 rw [show (((((w2.setCell ⟨g,f * 5,none⟩ (.int .i64 1)).setCell ⟨g,f * 5 + 1,none⟩ (.int .i64 p)).setCell ⟨g,f * 5 + 2,none⟩ (.int .i64 0)).setCell ⟨g,f * 5 + 3,none⟩ (.int .i64 0)).setCell ⟨g,f * 5 + 4,none⟩ (.bool false)) = setF w2 g f (fUsed p) from rfl]
 have H3 := hid (H2.out.frm (HFE.out w2 H2.out) (kept_setF _ _ _ _))
 have HK3 := hid (HI.out.kg (kept_setF w2 g f (fUsed p)))
 clear c0 f0 f1 f2 f3 f4 fz H2 HFE
 generalize setF w2 g f (fUsed p) = w3 at *
 have hbc := fun j (hj : j < 16) => acell_b (.slice (some ⟨g,0,none⟩) a.n cap) (.pointer (some ⟨dl,0,none⟩)) (.pointer (some ⟨dt,0,none⟩)) a.B f j (by omega) hj
 have hrw := H3.out.hd
 dsimp only at hrw
 have hbs : ∀ j,j < 16 → w3.cell? ⟨d,1 + f * 16 + j,none⟩ = some (.int .u8 ((a.B f).getD j 0)) := fun j hj => by rw [hrw.cell (by omega),hbc j hj]
 have b0 : w3.cell? ⟨d,1 + f * 16,none⟩ = some (.int .u8 ((a.B f).getD 0 0)) := hbs 0 (by omega)
 have b1 : w3.cell? ⟨d,1 + f * 16 + 1,none⟩ = some (.int .u8 ((a.B f).getD 1 0)) := hbs 1 (by omega)
 have b2 : w3.cell? ⟨d,1 + f * 16 + 2,none⟩ = some (.int .u8 ((a.B f).getD 2 0)) := hbs 2 (by omega)
 have b3 : w3.cell? ⟨d,1 + f * 16 + 3,none⟩ = some (.int .u8 ((a.B f).getD 3 0)) := hbs 3 (by omega)
 have b4 : w3.cell? ⟨d,1 + f * 16 + 4,none⟩ = some (.int .u8 ((a.B f).getD 4 0)) := hbs 4 (by omega)
 have b5 : w3.cell? ⟨d,1 + f * 16 + 5,none⟩ = some (.int .u8 ((a.B f).getD 5 0)) := hbs 5 (by omega)
 have b6 : w3.cell? ⟨d,1 + f * 16 + 6,none⟩ = some (.int .u8 ((a.B f).getD 6 0)) := hbs 6 (by omega)
 have b7 : w3.cell? ⟨d,1 + f * 16 + 7,none⟩ = some (.int .u8 ((a.B f).getD 7 0)) := hbs 7 (by omega)
 have b8 : w3.cell? ⟨d,1 + f * 16 + 8,none⟩ = some (.int .u8 ((a.B f).getD 8 0)) := hbs 8 (by omega)
 have b9 : w3.cell? ⟨d,1 + f * 16 + 9,none⟩ = some (.int .u8 ((a.B f).getD 9 0)) := hbs 9 (by omega)
 have b10 : w3.cell? ⟨d,1 + f * 16 + 10,none⟩ = some (.int .u8 ((a.B f).getD 10 0)) := hbs 10 (by omega)
 have b11 : w3.cell? ⟨d,1 + f * 16 + 11,none⟩ = some (.int .u8 ((a.B f).getD 11 0)) := hbs 11 (by omega)
 have b12 : w3.cell? ⟨d,1 + f * 16 + 12,none⟩ = some (.int .u8 ((a.B f).getD 12 0)) := hbs 12 (by omega)
 have b13 : w3.cell? ⟨d,1 + f * 16 + 13,none⟩ = some (.int .u8 ((a.B f).getD 13 0)) := hbs 13 (by omega)
 have b14 : w3.cell? ⟨d,1 + f * 16 + 14,none⟩ = some (.int .u8 ((a.B f).getD 14 0)) := hbs 14 (by omega)
 have b15 : w3.cell? ⟨d,1 + f * 16 + 15,none⟩ = some (.int .u8 ((a.B f).getD 15 0)) := hbs 15 (by omega)
 have fz := hrw.frozen
 have HROW : Hid (Row (w3.setCells d (1 + f * 16) ((List.range 16).map (bcell zeros))) d 515 (acell (.slice (some ⟨g,0,none⟩) a.n cap) (upd a.B f zeros) (.pointer (some ⟨dl,0,none⟩)) (.pointer (some ⟨dt,0,none⟩)))) := by
  refine (Row.laid hrw (1 + f * 16) (bcell zeros)).congr fun i hi => ?_
  have := acell_set (.slice (some ⟨g,0,none⟩) a.n cap) (.pointer (some ⟨dl,0,none⟩)) (.pointer (some ⟨dt,0,none⟩)) (B := a.B) (f := f) (o := 0) (zs := zeros) (by omega) HBL.out (Nat.le_refl _) i hi
  rw [show ArM.splice (a.B f) 0 zeros = zeros by unfold ArM.splice;rw [List.take_zero,List.drop_of_length_le (by rw [HBL.out f];exact Nat.le_refl _)];rfl] at this
  exact this
 have HKR := hid (kept_setCells d ((List.range 16).map (bcell zeros)) w3 (1 + f * 16))
 clear hrw hbc hbs
 go_wp2
 go_ret
 rw [show ((((((((((((((((w3.setCell ⟨d,1 + f * 16,none⟩ (.int .u8 0)).setCell ⟨d,1 + f * 16 + 1,none⟩ (.int .u8 0)).setCell ⟨d,1 + f * 16 + 2,none⟩ (.int .u8 0)).setCell ⟨d,1 + f * 16 + 3,none⟩ (.int .u8 0)).setCell ⟨d,1 + f * 16 + 4,none⟩ (.int .u8 0)).setCell ⟨d,1 + f * 16 + 5,none⟩ (.int .u8 0)).setCell ⟨d,1 + f * 16 + 6,none⟩ (.int .u8 0)).setCell ⟨d,1 + f * 16 + 7,none⟩ (.int .u8 0)).setCell ⟨d,1 + f * 16 + 8,none⟩ (.int .u8 0)).setCell ⟨d,1 + f * 16 + 9,none⟩ (.int .u8 0)).setCell ⟨d,1 + f * 16 + 10,none⟩ (.int .u8 0)).setCell ⟨d,1 + f * 16 + 11,none⟩ (.int .u8 0)).setCell ⟨d,1 + f * 16 + 12,none⟩ (.int .u8 0)).setCell ⟨d,1 + f * 16 + 13,none⟩ (.int .u8 0)).setCell ⟨d,1 + f * 16 + 14,none⟩ (.int .u8 0)).setCell ⟨d,1 + f * 16 + 15,none⟩ (.int .u8 0)) = w3.setCells d (1 + f * 16) ((List.range 16).map (bcell zeros)) from rfl]
 exact ⟨rfl,⟨HG.out,.inr ⟨_,_,_,_,_,_,_,(H3.out.hdr HROW.out HKR.out).big HT.out HP.out⟩⟩,((HK1.out.trans HK2.out).trans HK3.out).trans (HI.out.kd HKR.out)⟩
theorem take_any (h : ArAt w G d a) (p : Int) : Calls Tryz.prog 147 #[.pointer (some ⟨d,0,none⟩),.int .i64 p] w (APost G d w (.int .i64 (a.takeC p)) (a.take p)) := by
 cases hc : a.can p with
 | false =>
  have e1 : a.takeC p = -1 := by unfold Ar.takeC;rw [hc];rfl
  have e2 : a.take p = a := by unfold Ar.take;rw [hc];rfl
  rw [e1,e2]
  exact (take_bad h p hc).mono fun e w' ⟨h1,h2⟩ => ⟨h1,h2 ▸ h,h2 ▸ Kept.refl _ _⟩
 | true =>
  cases hq : a.Q with
  | nil =>
   have e1 : a.takeC p = -1 := by unfold Ar.takeC;rw [if_pos hc,hq];rfl
   have e2 : a.take p = a := by unfold Ar.take;rw [if_pos hc,hq];rfl
   rw [e1,e2]
   exact (take_none h p hc hq).mono fun e w' ⟨h1,h2⟩ => ⟨h1,h2 ▸ h,h2 ▸ Kept.refl _ _⟩
  | cons f q =>
   have e1 : a.takeC p = (f : Int) := by unfold Ar.takeC;rw [if_pos hc,hq];rfl
   have e2 : a.take p = ⟨a.n,upd a.F f (fUsed p),upd a.B f zeros,q⟩ := by unfold Ar.take;rw [if_pos hc,hq];rfl
   rw [e1,e2]
   exact take_good h p hc f q hq
end
end ArT
namespace RgD
open Go.ChangeShapes Go.WideShapes Go.ChangeAt Go.RowKit
open Mem Blk Cells Orow RfP RgP RgS RgA RgB RgC RgO Stages
open ArM (Ar Fr fUsed fFree)
open ArC (ArAt FR)
open Dev (Dv DevAt)
open ListM (outL frontL okO okF)
open HdM (Hs)
open RfM (Pl)
open RfI (InvE Inv)
open RgM (Bnd saveC saveS)
section
variable {p : Pl} {h : Option Nat} {f q v K : Nat} {t : List Nat}
theorem len32 (i : InvE p h) : p.L.length ≤ 32 := by
 have h1 := i.ga.n
 have h2 := ArM.len_cnt (n := p.A.n) (p := fun x => decide ((p.A.F x).st = 1)) i.nd fun x => by rw [i.mem x];simp
 have h3 := TabM.cnt_le (fun x => decide ((p.A.F x).st = 1)) p.A.n
 omega
theorem bytes_of (i : Inv p) (hf : f < p.A.n) (hs : (p.A.F f).st = 1) : MdM.Bytes (p.A.B f) := by
 obtain ⟨q,_,hp⟩ := i.pg f hf hs
 rw [(i.use f q hf hs hp (by simp)).2.2.1]
 exact i.gx.byt q
theorem out_no {L : List Nat} (h : f ∉ L) : outL L (f : Int) = L := by
 unfold outL okO
 simp [h]
theorem front_is {L : List Nat} (h : f ∉ L) (h2 : f < K) : frontL K L (f : Int) = f :: L := by
 unfold frontL okF
 rw [if_pos,Int.toNat_natCast]
 simp [h,h2]
theorem take_is (i : Inv p) (hq : q < p.X.n) (hno : ∀ x,x < p.A.n → (p.A.F x).st = 1 → (p.A.F x).pg ≠ (q : Int)) (hQ : p.A.Q = f :: t) :
  p.A.takeC (q : Int) = (f : Int) ∧ p.take (q : Int) = (((f : Int),0),⟨p.X,p.D,p.A.take (q : Int),f :: p.L⟩) ∧ (f ∉ p.L ∧ f < p.A.n) := by
 obtain ⟨h1,h2,h3,h4⟩ := i.taken hq hno hQ
 have hc : p.A.takeC (q : Int) = (f : Int) := by
  unfold Ar.takeC
  rw [if_pos h4,hQ]
  rfl
 have hfL : f ∉ p.L := fun hm => by have := ((i.mem f).1 hm).2;omega
 have := i.ga.n
 exact ⟨hc,by unfold Pl.take;rw [hc,front_is hfL (by omega)],hfL,h2⟩
def repC (p : Pl) : Int := match p.vic with | none => 8 | some v => saveC p v
def repS (p : Pl) : Pl := match p.vic with | none => p | some v => if saveC p v = 0 then (saveS p v).drop v else saveS p v
theorem room_old (hQ : p.A.Q = []) : p.room (q : Int) = if repC p = 0 then (repS p).take (q : Int) else ((-1,repC p),repS p) := by
 unfold Pl.room repC repS
 rw [if_pos hQ]
 cases hv : p.vic with
 | none => simp
 | some v =>
  dsimp only
  unfold Pl.evict saveC saveS
  by_cases hd : (p.A.F v).di = true
  ·by_cases hw : p.wrC v = 0
   ·simp [hd,hw]
   ·simp [hd,hw]
  ·simp [hd]
theorem room_new (hQ : p.A.Q = f :: t) : p.room (q : Int) = p.take (q : Int) := by
 unfold Pl.room
 rw [if_neg (by rw [hQ];exact List.cons_ne_nil _ _)]
theorem rep_spec (i : Inv p) (hQ : p.A.Q = []) (hno : ∀ x,x < p.A.n → (p.A.F x).st = 1 → (p.A.F x).pg ≠ (q : Int)) (hc : repC p = 0) : ∃ v,p.vic = some v ∧ Inv (repS p) ∧ (repS p).A.Q = [v] ∧ (repS p).A.n = p.A.n ∧ (repS p).X = p.X ∧ ∀ x,x < (repS p).A.n → ((repS p).A.F x).st = 1 → ((repS p).A.F x).pg ≠ (q : Int) := by
 cases hv : p.vic with
 | none =>
  unfold repC at hc
  rw [hv] at hc
  have hc : (8 : Int) = 0 := hc
  exact absurd hc (by decide)
 | some v =>
  obtain ⟨hm,hpn⟩ := RfR.vic_some hv
  obtain ⟨hf,hs⟩ := (i.mem v).1 hm
  obtain ⟨r,hr,hp⟩ := i.pg v hf hs
  have e : repS p = if saveC p v = 0 then (saveS p v).drop v else saveS p v := by unfold repS;rw [hv]
  have hc' : saveC p v = 0 := by unfold repC at hc;rw [hv] at hc;exact hc
  rw [if_pos hc'] at e
  obtain ⟨g1,i1,hL1,hQ1,hF1,hd1⟩ : RfR.Go p (saveS p v) ∧ Inv (saveS p v) ∧ (saveS p v).L = p.L ∧ (saveS p v).A.Q = p.A.Q ∧ (∀ x,((saveS p v).A.F x).st = (p.A.F x).st ∧ ((saveS p v).A.F x).pg = (p.A.F x).pg ∧ ((saveS p v).A.F x).pn = (p.A.F x).pn) ∧ ((saveS p v).A.F v).di = false := by
   cases hd : (p.A.F v).di with
   | false =>
    have e2 : saveS p v = p := by unfold saveS;rw [hd];rfl
    rw [e2]
    exact ⟨RfR.Go.refl p,i,rfl,rfl,fun x => ⟨rfl,rfl,rfl⟩,hd⟩
   | true =>
    have e2 : saveS p v = p.wr v := by unfold saveS;rw [hd];rfl
    have e3 : p.wrC v = 0 := by unfold saveC at hc';rw [hd] at hc';exact hc'
    obtain ⟨h1,h2,h3,h4,h5,h6⟩ := RfR.wr_spec i hf hs hp (by simp)
    rw [e2]
    rcases h6 with ⟨_,h6,h7⟩ | ⟨h6,_⟩
    ·refine ⟨h1,h2,h3,h4,fun x => ?_,by rw [h6,TabM.upd_same]⟩
     rw [h6]
     by_cases ex : x = v
     ·subst ex;rw [TabM.upd_same];exact ⟨hs.symm,hp.symm,rfl⟩
     ·rw [TabM.upd_other _ _ ex];exact ⟨rfl,rfl,rfl⟩
    ·rw [e3] at h6;exact absurd h6 (by decide)
  obtain ⟨x1,x2,x3⟩ := hF1 v
  obtain ⟨g2,i2,h8,h9,h10⟩ := RfR.drop_spec i1 (f := v) (q := r) (by rw [g1.n];exact hf) (by rw [x1];exact hs) (by rw [x2];exact hp) (by rw [x3];exact hpn) (.inr hd1)
  rw [e]
  refine ⟨v,rfl,i2,by rw [h9,hQ1,hQ];rfl,g2.n.trans g1.n,g2.X.trans g1.X,fun x hx hsx => ?_⟩
  rw [g2.n,g1.n] at hx
  rw [h10] at hsx ⊢
  by_cases ex : x = v
  ·subst ex;rw [TabM.upd_same] at hsx;have : (0 : Int) = 1 := hsx;omega
  ·rw [TabM.upd_other _ _ ex] at hsx ⊢
   obtain ⟨y1,y2,_⟩ := hF1 x
   rw [y1] at hsx
   rw [y2]
   exact hno x hx hsx
end
section
variable {w w' : World} {col col' : Nat → Nat} {ν : Nm} {H : Hs} {T : Nat → Bool} {p : Pl} {f q k : Nat} {t : List Nat}
set_option maxRecDepth 100000 in
theorem replace_any (x : MAt w col ν p.D p.A p.L H T) (i : Inv p) (hl : Bnd p.D k) (hk : k ≤ 1000000) :
  Calls Tryz.prog 146 #[.pointer (some ⟨ν.r,0,none⟩)] w (Post ν w col (.int .i64 (repC p)) (repS p).D (repS p).A (repS p).L H T) := by
 have HO := hid (oldest_any x (fun f hf => ((i.mem f).1 hf).1) i.ga.n (len32 i))
 have HX := hid x
 cases hv : p.vic with
 | none =>
  have e : oldI p.A.F p.L = -1 := by unfold oldI;rw [show oldV p.A.F p.L = none from hv]
  have E1 : Hid (repC p = 8) := by unfold Hid repC;rw [hv]
  have E2 : Hid (repS p = p) := by unfold Hid repS;rw [hv]
  rw [e] at HO
  rw [E1.out,E2.out]
  clear x i hl hk e hv
  go_enter Tryz.func146,Tryz.ntmps146
  go_wp2_with (go_at_call 177;(with_reducible refine HO.out.mono ?_);rintro e w1 ⟨rfl,hg⟩;have HG := hid hg;clear hg)
  go_ret
  exact ⟨rfl,HX.out.grow' HG.out⟩
 | some v =>
  have e : oldI p.A.F p.L = (v : Int) := by unfold oldI;rw [show oldV p.A.F p.L = some v from hv]
  obtain ⟨hm,hpn⟩ := RfR.vic_some hv
  obtain ⟨hf,hs⟩ := (i.mem v).1 hm
  have hvz : ¬ ((v : Int) = -1) := by omega
  have hvb : ((v : Int) == -1) = false := by simp
  rw [e] at HO
  have CS : Hid (∀ wx cx,MAt wx cx ν p.D p.A p.L H T → Calls Tryz.prog 101 #[.pointer (some ⟨ν.r,0,none⟩),.int .i64 (v : Int)] wx (Post ν wx cx (.int .i64 (saveC p v)) (saveS p v).D (saveS p v).A (saveS p v).L H T)) := fun wx cx y => save_any y i hf (bytes_of i hf hs) hl hk
  by_cases hc : saveC p v = 0
  ·have E1 : Hid (repC p = 0) := by unfold Hid repC;rw [hv];exact hc
   have E2 : Hid (repS p = (saveS p v).drop v) := by unfold Hid repS;rw [hv];exact if_pos hc
   rw [hc] at CS
   rw [E1.out,E2.out]
   clear x i hl hk e hv hm hpn hf hs hc hvz
   go_enter Tryz.func146,Tryz.ntmps146
   go_wp2_with (first
    | (go_at_call 177;(with_reducible refine HO.out.mono ?_);rintro e w1 ⟨rfl,hg⟩;have HG := hid hg;have HS := hid (CS.out w1 _ (HX.out.grow hg));clear hg)
    | (go_at_call 101;(with_reducible refine HS.out.mono ?_);rintro e w2 ⟨rfl,c2,hw2,hm2⟩;have HW2 := hid ((Went.grow HG.out).trans hw2);have HM2 := hid hm2;have HD := hid (drop_any hm2 (v : Int));clear hw2 hm2)
    | (go_at_call 107;(with_reducible refine HD.out.mono ?_);rintro e w3 ⟨rfl,c3,hw3,hm3⟩;have HW3 := hid (HW2.out.trans hw3);have HM3 := hid hm3;clear hw3 hm3))
   go_ret
   exact ⟨rfl,c3,HW3.out,HM3.out⟩
  ·have E1 : Hid (repC p = saveC p v) := by unfold Hid repC;rw [hv]
   have E2 : Hid (repS p = saveS p v) := by unfold Hid repS;rw [hv];exact if_neg hc
   rw [E1.out,E2.out]
   have hcb : (saveC p v != 0) = true := by simpa using hc
   clear x i hl hk e hv hm hpn hf hs hvz E1 E2
   generalize saveC p v = cc at *
   go_enter Tryz.func146,Tryz.ntmps146
   go_wp2_with (first
    | (go_at_call 177;(with_reducible refine HO.out.mono ?_);rintro e w1 ⟨rfl,hg⟩;have HG := hid hg;have HS := hid (CS.out w1 _ (HX.out.grow hg));clear hg)
    | (go_at_call 101;(with_reducible refine HS.out.mono ?_);rintro e w2 ⟨rfl,c2,hw2,hm2⟩;have HW2 := hid ((Went.grow HG.out).trans hw2);have HM2 := hid hm2;clear hw2 hm2))
   go_ret
   exact ⟨rfl,c2,HW2.out,HM2.out⟩
def RoomPost (ν : Nm) (w : World) (col : Nat → Nat) (y : (Int × Int) × Pl) (H : Hs) (T : Nat → Bool) : Ending → World → Prop := Post ν w col (.tuple #[.int .i64 y.1.1,.int .i64 y.1.2]) y.2.D y.2.A y.2.L H T
set_option maxRecDepth 100000 in
theorem room_any (x : MAt w col ν p.D p.A p.L H T) (i : Inv p) (hq : q < p.X.n) (hno : ∀ x,x < p.A.n → (p.A.F x).st = 1 → (p.A.F x).pg ≠ (q : Int)) (hK : ν.K = p.A.n) (hl : Bnd p.D k) (hk : k ≤ 1000000) :
  Calls Tryz.prog 90 #[.pointer (some ⟨ν.r,0,none⟩),.int .i64 (q : Int)] w (RoomPost ν w col (p.room (q : Int)) H T) := by
 have c1 := x.c1
 have HF := hid (ArD.free_any x.arena)
 have HX := hid x
 unfold RoomPost
 cases hQ : p.A.Q with
 | cons f t =>
  obtain ⟨t1,t2,t3,t4⟩ := take_is i hq hno hQ
  have HT := hid (ArT.take_any x.arena (q : Int))
  have E : Hid (p.room (q : Int) = (((f : Int),0),⟨p.X,p.D,p.A.take (q : Int),f :: p.L⟩)) := (room_new hQ).trans t2
  have EL : Hid (frontL ν.K (outL p.L (f : Int)) (f : Int) = f :: p.L) := by rw [out_no t3];exact front_is t3 (by omega)
  have hqb : (((f :: t).length : Int) == 0) = false := by simp;omega
  rw [t1] at HT
  rw [hQ] at HF
  rw [E.out]
  clear x i hq hno hK hl hk t1 t2 t3 t4 E
  generalize (f :: t).length = m at *
  go_enter Tryz.func90,Tryz.ntmps90
  go_wp2_with (first
   | (go_at_call 145;(with_reducible refine HF.out.mono ?_);rintro e w1 ⟨rfl,rfl⟩)
   | (go_at_call 147;(with_reducible refine HT.out.mono ?_);rintro e w1 ⟨rfl,ha,hk⟩;obtain ⟨c2,hw2,hm2⟩ := HX.out.setA ha hk;have HW2 := hid hw2;have HTO := hid (touch_any hm2 (f : Int));clear ha hk hw2 hm2)
   | (go_at_call 96;(with_reducible refine HTO.out.mono ?_);rintro e w3 ⟨rfl,c3,hw3,hm3⟩;have HW3 := hid (HW2.out.trans hw3);have HM3 := hid hm3;clear hw3 hm3))
  go_ret2
  have h3 := HM3.out
  rw [EL.out] at h3
  exact ⟨rfl,c3,HW3.out,h3⟩
 | nil =>
  have HR := hid (replace_any x i hl hk)
  have E := room_old (q := q) hQ
  rw [hQ] at HF
  by_cases hc : repC p = 0
  ·obtain ⟨v,_,i1,hQ1,hn1,hX1,hno1⟩ := rep_spec i hQ hno hc
   obtain ⟨t1,t2,t3,t4⟩ := take_is (q := q) i1 (by rw [hX1];exact hq) hno1 hQ1
   rw [if_pos hc,t2] at E
   have EH := hid E
   have EL : Hid (frontL ν.K (outL (repS p).L (v : Int)) (v : Int) = v :: (repS p).L) := by rw [out_no t3];exact front_is t3 (by omega)
   rw [hc] at HR
   rw [EH.out]
   have ET := hid t1
   clear x i hq hno hK hl hk t1 t2 t3 t4 E hc i1 hQ1 hn1 hX1 hno1 hQ
   go_enter Tryz.func90,Tryz.ntmps90
   go_wp2_with (first
    | (go_at_call 145;(with_reducible refine HF.out.mono ?_);rintro e w1 ⟨rfl,rfl⟩)
    | (go_at_call 146;(with_reducible refine HR.out.mono ?_);rintro e w1 ⟨rfl,c1',hw1,hm1⟩;have HW1 := hid hw1;have d1 := hm1.c1;have HT := hid (ArT.take_any hm1.arena (q : Int));rw [ET.out] at HT;have HM1 := hid hm1;clear hw1 hm1 c1)
    | (go_at_call 147;(with_reducible refine HT.out.mono ?_);rintro e w1 ⟨rfl,ha,hk⟩;obtain ⟨c2,hw2,hm2⟩ := HM1.out.setA ha hk;have HW2 := hid (HW1.out.trans hw2);have HTO := hid (touch_any hm2 (v : Int));clear ha hk hw2 hm2 d1)
    | (go_at_call 96;(with_reducible refine HTO.out.mono ?_);rintro e w3 ⟨rfl,c3,hw3,hm3⟩;have HW3 := hid (HW2.out.trans hw3);have HM3 := hid hm3;clear hw3 hm3))
   go_ret2
   have h3 := HM3.out
   rw [EL.out] at h3
   exact ⟨rfl,c3,HW3.out,h3⟩
  ·rw [if_neg hc] at E
   have EH := hid E
   rw [EH.out]
   have hcb : (repC p != 0) = true := by simpa using hc
   clear x i hq hno hK hl hk E hQ EH
   generalize repC p = cc at *
   go_enter Tryz.func90,Tryz.ntmps90
   go_wp2_with (first
    | (go_at_call 145;(with_reducible refine HF.out.mono ?_);rintro e w1 ⟨rfl,rfl⟩)
    | (go_at_call 146;(with_reducible refine HR.out.mono ?_);rintro e w1 ⟨rfl,c1',hw1,hm1⟩;have HW1 := hid hw1;have HM1 := hid hm1;clear hw1 hm1 c1))
   go_ret2
   exact ⟨rfl,c1',HW1.out,HM1.out⟩
end
end RgD
namespace RgE
open Go.ChangeShapes Go.WideShapes Go.ChangeAt Go.RowKit
open Mem Blk Cells Orow RfP RgP RgS RgA RgB RgC RgO RgD Stages
open ArM (Ar Fr fUsed fFree)
open ArC (ArAt FR)
open Dev (Dv DevAt)
open ListM (outL frontL okO okF)
open HdM (Hs)
open RfM (Pl)
open RfI (InvE Inv)
open RgM (Bnd saveC saveS)
section
variable {w w' : World} {col col' : Nat → Nat} {ν : Nm} {H : Hs} {T : Nat → Bool} {p : Pl} {h : Option Nat} {f q k : Nat} {t : List Nat}
theorem touched (i : InvE p h) (hf : f < p.A.n) (hs : (p.A.F f).st = 1) {K : Nat} (hK : K = p.A.n) : frontL K (outL p.L (f : Int)) (f : Int) = (p.front (f : Int)).L ∧ (p.front (f : Int)).A = p.A ∧ (p.front (f : Int)).D = p.D := by
 obtain ⟨e,_,_⟩ := RfF.front_list i hf hs
 obtain ⟨_,h2⟩ := RfR.out_mem ((i.mem f).2 ⟨hf,hs⟩)
 rw [e,h2]
 exact ⟨front_is (fun hx => (i.nd.mem_erase_iff.1 hx).1 rfl) (by omega),rfl,rfl⟩
set_option maxRecDepth 100000 in
theorem bring_any (x : MAt w col ν p.D p.A p.L H T) (i : Inv p) (hq : q < p.X.n) (hK : ν.K = p.A.n) (hl : Bnd p.D k) (hk : k ≤ 100000) :
  Calls Tryz.prog 94 #[.pointer (some ⟨ν.r,0,none⟩),.int .i64 (q : Int)] w (RoomPost ν w col (p.fetch (q : Int)) H T) := by
 have c1 := x.c1
 have HF := hid (ArD.find_any x.arena (q : Int))
 have HX := hid x
 unfold RoomPost
 rcases ArM.find_cases p.A (q : Int) with ⟨e,hno⟩ | ⟨f,hf,hs,hp,e⟩
 ·have HR := hid (room_any x i hq hno hK hl (by omega))
  have E0 : p.fetch (q : Int) = if (p.room (q : Int)).1.2 ≠ 0 then ((-1,(p.room (q : Int)).1.2),(p.room (q : Int)).2) else (p.room (q : Int)).2.load (q : Int) (p.room (q : Int)).1.1.toNat := by
   unfold Pl.fetch
   rw [e,if_neg (by decide)]
  rw [e] at HF
  have hb2 := hl.room (q : Int)
  unfold RoomPost at HR
  have bad : ∀ (z : Int) (p' : Pl),z ≠ 0 → p.room (q : Int) = ((-1,z),p') → Calls Tryz.prog 94 #[.pointer (some ⟨ν.r,0,none⟩),.int .i64 (q : Int)] w (Post ν w col (.tuple #[.int .i64 (p.fetch (q : Int)).1.1,.int .i64 (p.fetch (q : Int)).1.2]) (p.fetch (q : Int)).2.D (p.fetch (q : Int)).2.A (p.fetch (q : Int)).2.L H T) := fun z p' hz hr => by
   rw [hr] at E0 HR
   have E : Hid (p.fetch (q : Int) = ((-1,z),p')) := E0.trans (if_pos hz)
   rw [E.out]
   have hzb : (z != 0) = true := by simpa using hz
   clear x i hq hK hl hk e hno hb2 E0 hr E
   go_enter Tryz.func94,Tryz.ntmps94
   go_wp2_with (first
    | (go_at_call 102;(with_reducible refine HF.out.mono ?_);rintro e w1 ⟨rfl,rfl⟩)
    | (go_at_call 90;(with_reducible refine HR.out.mono ?_);rintro e w1 ⟨rfl,c1',hw1,hm1⟩;have HW1 := hid hw1;have HM1 := hid hm1;clear hw1 hm1))
   go_ret2
   exact ⟨rfl,c1',HW1.out,HM1.out⟩
  rcases RfR.room_spec i hq hno with ⟨f,p',hr,hg,i',hcur,hf,hF,hB,_⟩ | ⟨hr,_⟩ | ⟨p',hr,_⟩
  ·rw [hr] at E0 HR hb2
   have E1 : p.fetch (q : Int) = p'.load (q : Int) f := by
    rw [E0,if_neg (fun z => z rfl)]
    dsimp only
    rw [Int.toNat_natCast]
   rw [load_eq] at E1
   have CL : Hid (∀ wx cx,MAt wx cx ν p'.D p'.A p'.L H T → Calls Tryz.prog 151 #[.pointer (some ⟨ν.r,0,none⟩),.int .i64 (f : Int),.int .i64 (q : Int)] wx (Post ν wx cx (.int .i64 (loadC p' q)) (Dev.readS p'.D q) (loadA p' q f) p'.L H T)) := fun wx cx y => load_any y i' hf (by rw [hg.X];exact hq) hF hb2 (by omega)
   by_cases hc : loadC p' q = 0
   ·rw [if_pos hc] at E1
    have E := hid E1
    rw [hc] at CL
    rw [E.out]
    clear x i hq hK hl hk e hno hb2 E0 hr E E1 bad hc hg i' hcur hf hF hB
    go_enter Tryz.func94,Tryz.ntmps94
    go_wp2_with (first
     | (go_at_call 102;(with_reducible refine HF.out.mono ?_);rintro e w1 ⟨rfl,rfl⟩)
     | (go_at_call 90;(with_reducible refine HR.out.mono ?_);rintro e w1 ⟨rfl,c1',hw1,hm1⟩;have HW1 := hid hw1;have HL := hid (CL.out w1 c1' hm1);clear hw1 hm1 c1)
     | (go_at_call 151;(with_reducible refine HL.out.mono ?_);rintro e w2 ⟨rfl,c2,hw2,hm2⟩;have HW2 := hid (HW1.out.trans hw2);have HM2 := hid hm2;clear hw2 hm2))
    go_ret2
    exact ⟨rfl,c2,HW2.out,HM2.out⟩
   ·rw [if_neg hc] at E1
    have E := hid E1
    rw [E.out]
    have hcb : (loadC p' q != 0) = true := by simpa using hc
    clear x i hq hK hl hk e hno hb2 E0 hr E E1 bad hg i' hcur hf hF hB
    generalize loadC p' q = z at *
    go_enter Tryz.func94,Tryz.ntmps94
    go_wp2_with (first
     | (go_at_call 102;(with_reducible refine HF.out.mono ?_);rintro e w1 ⟨rfl,rfl⟩)
     | (go_at_call 90;(with_reducible refine HR.out.mono ?_);rintro e w1 ⟨rfl,c1',hw1,hm1⟩;have HW1 := hid hw1;have HL := hid (CL.out w1 c1' hm1);clear hw1 hm1 c1)
     | (go_at_call 151;(with_reducible refine HL.out.mono ?_);rintro e w2 ⟨rfl,c2,hw2,hm2⟩;have HW2 := hid (HW1.out.trans hw2);have HD := hid (drop_any hm2 (f : Int));clear hw2 hm2)
     | (go_at_call 107;(with_reducible refine HD.out.mono ?_);rintro e w3 ⟨rfl,c3,hw3,hm3⟩;have HW3 := hid (HW2.out.trans hw3);have HM3 := hid hm3;clear hw3 hm3))
    go_ret2
    exact ⟨rfl,c3,HW3.out,HM3.out⟩
  ·exact bad 8 p (by decide) hr
  ·exact bad 9 p' (by decide) hr
 ·have E : Hid (p.fetch (q : Int) = (((f : Int),0),p.front (f : Int))) := by unfold Hid Pl.fetch;rw [e,if_pos (by omega)]
  obtain ⟨t1,t2,t3⟩ := touched i hf hs hK
  have HT := hid (touch_any x (f : Int))
  rw [t1] at HT
  rw [E.out]
  dsimp only
  rw [t2,t3]
  have hfb : ((f : Int) != -1) = true := by simp
  rw [e] at HF
  clear x i hq hK hl hk e hf hs hp t1 t2 t3 E
  go_enter Tryz.func94,Tryz.ntmps94
  go_wp2_with (first
   | (go_at_call 102;(with_reducible refine HF.out.mono ?_);rintro e w1 ⟨rfl,rfl⟩)
   | (go_at_call 96;(with_reducible refine HT.out.mono ?_);rintro e w3 ⟨rfl,c3,hw3,hm3⟩;have HW3 := hid hw3;have HM3 := hid hm3;clear hw3 hm3))
  go_ret2
  exact ⟨rfl,c3,HW3.out,HM3.out⟩
end
end RgE
namespace RgH
open MdM (Md)
open HdM (Hs)
def hs (X : Md) : Hs := ⟨X.N,X.H⟩
section
variable {X : Md} {c h p : Int} {k j q : Nat} {t : Bool} {b : List Int}
theorem hs_pins (P : Int) : (hs X).pins P = X.pins P := rfl
theorem hs_page : (hs X).page c h = X.held c h := by
 unfold Hs.page Hs.len Md.held hs
 by_cases hc : 0 ≤ c ∧ c < (X.N : Int)
 ·dsimp only
  rw [if_pos hc]
  by_cases hh : 0 ≤ h ∧ h < 6
  ·rw [if_pos (by omega),if_pos ⟨hc,hh⟩]
  ·rw [if_neg (by omega),if_neg fun x => hh x.2]
 ·dsimp only
  rw [if_neg hc,if_neg (by omega),if_neg fun x => hc x.1]
theorem hs_room (hk : k < X.N) : (hs X).room (k : Int) = !decide (X.free k = -1) := HdM.room_in (a := hs X) hk
theorem hs_give (hk : k < X.N) (hp : 0 ≤ p) : (hs X).give (k : Int) p = X.free k := HdM.give_in (a := hs X) hk (by omega)
theorem hs_gave (hk : k < X.N) (hp : 0 ≤ p) (hf : X.free k = (j : Int)) : (hs X).gave (k : Int) p = hs (X.putH k j p) := HdM.gave_at (by rw [hs_give hk hp];exact hf)
theorem hs_back (h0 : 0 ≤ X.held c h) : (hs X).back c h = hs (X.putH c.toNat h.toNat (-1)) := by
 unfold Hs.back
 rw [hs_page,if_neg (by omega)]
 rfl
end
end RgH
namespace RgF
open Go.ChangeShapes Go.WideShapes Go.ChangeAt Go.RowKit
open Mem Blk Cells Orow RfP RgP RgS RgA RgB RgC RgO RgD RgE Stages
open ArM (Ar Fr fUsed fFree)
open ArC (ArAt FR)
open Dev (Dv DevAt)
open ListM (outL frontL okO okF)
open HdM (Hs)
open RgH (hs)
open MdM (Md MdOp Re)
open RfM (Pl)
open RfI (InvE Inv)
open RgM (Bnd saveC saveS)
def flagI (T : Nat → Bool) (i : Nat) : Int := if T i then 0 else -1
theorem flag_ne {T : Nat → Bool} {i : Nat} : flagI T i ≠ -1 ↔ T i = true := by unfold flagI;cases T i <;> simp
def gapI (T : Nat → Bool) (n : Nat) : Int := if HdM.lst (flagI T) n = n then -1 else (HdM.lst (flagI T) n : Int)
section
variable {w w' : World} {col col' : Nat → Nat} {ν : Nm} {S : Dv} {A : Ar} {L : List Nat} {H : Hs} {T : Nat → Bool} {p : Pl} {h : Option Nat} {f q k n b c g : Nat}
theorem gap_any (h : Row w b n (tcell T)) (hn : n ≤ 48) : Calls Tryz.prog 88 #[.slice (some ⟨b,0,none⟩) n c,.bool false] w fun e w' => e = .returned (.int .i64 (gapI T n)) ∧ w = w' := by
 have HO := hid h
 have hnz : (n : Int) ≤ 48 := by omega
 clear h
 go_enter Tryz.func88,Tryz.ntmps88
 go_wp2
 go_loopg [8] n (fun gx i wr => ∃ j : Nat,j + gx = n ∧ i = .int .i64 (j : Int) ∧ w = wr ∧ ∀ t,t < j → flagI T t ≠ -1)
 case atStart => exact ⟨0,by omega,rfl,rfl,fun t h => absurd h (Nat.not_lt_zero t)⟩
 case round =>
  obtain ⟨j,hg,rfl,rfl,hno⟩ := hrel
  have HG := hid hg
  have HNO := hid hno
  clear hg hno
  by_cases hj : j < n
  ·have hjz : (j : Int) < (n : Int) := by omega
   have r1 := HO.out.cell hj
   unfold tcell at r1
   cases hx : T j with
   | false =>
    have HE : Hid (gapI T n = (j : Int)) := by
     have hl : HdM.lst (flagI T) n = j := HdM.lst_eq HNO.out (.inr ⟨hj,by unfold flagI;rw [hx];rfl⟩)
     unfold Hid gapI
     rw [hl,if_neg (by omega)]
    rw [hx] at r1
    clear hx hj
    go_wp2
    go_ret
    exact ⟨by rw [HE.out];rfl,rfl⟩
   | true =>
    have HX : Hid (flagI T j ≠ -1) := flag_ne.2 hx
    rw [hx] at r1
    clear hx
    go_wp2
    go_roundg (gk - 1)
    case measure => have := HG.out;omega
    case rel => exact ⟨j + 1,by have := HG.out;omega,by go_num,rfl,fun t ht => by
     by_cases e : t = j
     ·subst e;exact HX.out
     ·exact HNO.out t (by omega)⟩
  ·have hjn : j = n := by have := HG.out;omega
   have HE : Hid (gapI T n = -1) := by
    have hl : HdM.lst (flagI T) n = n := HdM.lst_eq (k := n) (fun t ht => HNO.out t (by omega)) (.inl rfl)
    unfold Hid gapI
    rw [if_pos hl]
   have hjz : ¬ ((j : Int) < (n : Int)) := by omega
   clear hjn hj
   go_wp2
   go_ret
   exact ⟨by rw [HE.out];rfl,rfl⟩
theorem fin_r {w2 : World} {c2 : Nat → Nat} {cs : List Value} {xs : Array Value} {r : Re} {b : Nat} (hW : Went w col w2 c2) (hM : MAt w2 c2 ν S A L H T) (hB : Blk w2 g 27 cs) (hc : c2 g < 6 ∨ 11 < c2 g) (hg : w.heap.size ≤ g) (hv : ResV w2 b c2 (.agg xs) r) (hb : g < b) :
  Blk (w2.setRow g xs) g 27 xs.toList ∧ RPost ν w col r S A L H T (.returned (.agg xs)) (w2.setRow g xs) := by
 obtain ⟨h1,hk⟩ := set_row hB xs
 obtain ⟨P,m,cp,e,hs,hx,hf⟩ := hv
 refine ⟨h1,.agg xs,c2,rfl,⟨P,m,cp,e,?_,fun y ey hm => ⟨?_,(hx y ey hm).2⟩,hf.kept hk fun hm y ey => ⟨PmT.sl_lt hs hm ey,?_⟩⟩,Went.box hW hk hg,hM.keep hk (fun i _ ei => by rw [ei];exact hc) fun _ _ => rfl⟩
 ·by_cases hm : 0 < m
  ·refine (sl_off hs hk fun y ey ei => ?_).more hk.size
   have := (hx y ey hm).1
   have ei : y.block = g := ei
   omega
  ·exact ⟨hs.1,fun h0 => absurd h0 hm⟩
 ·have := (hx y ey hm).1;omega
 ·intro ei
  have := (hx y ey hm).1
  have ei : y.block = g := ei
  omega
abbrev MP (w : World) (col : Nat → Nat) (ν : Nm) (p : Pl) : Prop := MAt w col ν p.D p.A p.L (hs p.X) p.X.T
def RunPost (ν : Nm) (w : World) (col : Nat → Nat) (y : Re × Pl) : Ending → World → Prop := RPost ν w col y.1 y.2.D y.2.A y.2.L (hs y.2.X) y.2.X.T
structure Fit (ν : Nm) (p : Pl) : Prop where
 n : ν.n = p.X.n
 N : ν.N = p.X.N
 K : ν.K = p.A.n
set_option maxRecDepth 100000 in
set_option maxHeartbeats 1000000 in
theorem create_any {o : MdOp} (x : MP w col ν p) (i : Inv p) (ft : Fit ν p) (hc : c < p.X.N) (ho : o.k = 1) (hl : Bnd p.D k) (hk : k ≤ 100000) :
  Calls Tryz.prog 40 #[.pointer (some ⟨ν.r,0,none⟩),.int .i64 (c : Int)] w (RunPost ν w col (p.run (c : Int) o)) := by
 have hr : p.X.run (c : Int) o = p.X.new c := by
  unfold Md.run
  rw [if_neg (by rw [ho];omega),if_pos ho,Int.toNat_natCast]
 have hn48 := i.gx.n.2
 have hb := Blk.new w 27 [.int .i64 0,.int .i64 0,.int .i64 0,.slice none 0 0]
 have hg : Grow w (w.alloc (.cells #[.int .i64 0,.int .i64 0,.int .i64 0,.slice none 0 0] 27)) := (Kept.refl _ _).alloc _
 have hx := x.grow hg
 have HX := hid hx
 have HW := hid (Went.grow (col := col) hg)
 have HC : Hid (paint w.heap.size 0 col w.heap.size < 6 ∨ 11 < paint w.heap.size 0 col w.heap.size) := .inl (by rw [paint_new (Nat.le_refl _)];decide)
 have HB := hid hb
 have HLT : Hid (w.heap.size < (w.alloc (.cells #[.int .i64 0,.int .i64 0,.int .i64 0,.slice none 0 0] 27)).heap.size) := hb.lt
 have HGA := hid (gap_any (c := ν.n) hx.th (by rw [ft.n];exact hn48))
 have HRO := hid (HdO.room_any hx.hand (c : Int))
 have e4 := hx.c4
 have e2 := hx.c2
 rw [RgH.hs_room hc] at HRO
 unfold RunPost
 rcases HdM.hnd_cases (p.X.H c) 6 with ⟨e,_⟩ | ⟨j,hj,e,hH,_⟩
 ·have e : p.X.free c = -1 := e
  have hnw : p.X.new c = (MdM.err 4,p.X) := by unfold Md.new;rw [if_pos e]
  have E : Hid (p.run (c : Int) o = (MdM.err 4,p)) := by unfold Hid Pl.run;rw [hr,hnw,if_pos (by exact (by decide : (4 : Int) ≠ 0))]
  rw [E.out]
  rw [e] at HRO
  simp only [decide_true,Bool.not_true] at HRO
  clear x i ft hc ho hl hk hr hb hg hx e E hnw hn48
  generalize gapI p.X.T ν.n = gi at *
  go_enter Tryz.func40,Tryz.ntmps40
  go_upto_region 1 with (fail)
  generalize w.alloc (.cells #[.int .i64 0,.int .i64 0,.int .i64 0,.slice none 0 0] 27) = w0 at *
  generalize paint w.heap.size 0 col = c0 at *
  have HWL := HW
  have HXL := HX
  have HBL := hid (And.intro HB.out HC.out)
  go_wp2_with (first
   | (go_at_call 88;(with_reducible refine HGA.out.mono ?_);rintro e w1 ⟨rfl,rfl⟩)
   | (go_at_call 89;(with_reducible refine HRO.out.mono ?_);rintro e w1 ⟨rfl,rfl⟩)
   | (go_at_call 39;(with_reducible refine (code_any _ _).mono ?_);rintro e wz ⟨rfl,hg⟩;have HG := hid hg;have HWZ := hid (HWL.out.trans (Went.grow hg));have HXZ := hid (HXL.out.grow hg);have HBZ := hid (Went.blk (Went.grow hg) HBL.out.1 HBL.out.2);clear hg)
   | (refine wpList_store_row rfl 27 _ _ rfl w.heap.size #[.int .i64 4,.int .i64 0,.int .i64 0,.slice none 0 0] rfl rfl _ _ HBZ.out.1 MdC.res_size rfl (by simp [Value.oneCell']) ?_))
  obtain ⟨f1,f2⟩ := fin_r HWZ.out HXZ.out HBZ.out.1 HBZ.out.2 (Nat.le_refl _) (resv_none _ (w.heap.size + 1) _ 4 0 0) (Nat.lt_succ_self _)
  exact MdC.ret_res (g := w.heap.size) rfl rfl f1 rfl f2
 ·have e : p.X.free c = (j : Int) := e
  rw [e] at HRO
  rw [decide_eq_false (show ¬ ((j : Int) = -1) by omega)] at HRO
  simp only [Bool.not_false] at HRO
  by_cases hgp : p.X.gap = p.X.n
  ·have hnw : p.X.new c = (MdM.err 3,p.X) := by unfold Md.new;rw [if_neg (by rw [e];omega),if_pos hgp]
   have E : Hid (p.run (c : Int) o = (MdM.err 3,p)) := by unfold Hid Pl.run;rw [hr,hnw,if_pos (by exact (by decide : (3 : Int) ≠ 0))]
   have hgi : gapI p.X.T ν.n = -1 := by rw [ft.n];exact if_pos hgp
   rw [hgi] at HGA
   rw [E.out]
   clear x i ft hc ho hl hk hr hb hg hx e E hnw hn48 hgi hgp
   go_enter Tryz.func40,Tryz.ntmps40
   go_upto_region 1 with (fail)
   generalize w.alloc (.cells #[.int .i64 0,.int .i64 0,.int .i64 0,.slice none 0 0] 27) = w0 at *
   generalize paint w.heap.size 0 col = c0 at *
   have HWL := HW
   have HXL := HX
   have HBL := hid (And.intro HB.out HC.out)
   go_wp2_with (first
    | (go_at_call 88;(with_reducible refine HGA.out.mono ?_);rintro e w1 ⟨rfl,rfl⟩)
    | (go_at_call 89;(with_reducible refine HRO.out.mono ?_);rintro e w1 ⟨rfl,rfl⟩)
    | (go_at_call 39;(with_reducible refine (code_any _ _).mono ?_);rintro e wz ⟨rfl,hg⟩;have HG := hid hg;have HWZ := hid (HWL.out.trans (Went.grow hg));have HXZ := hid (HXL.out.grow hg);have HBZ := hid (Went.blk (Went.grow hg) HBL.out.1 HBL.out.2);clear hg)
    | (refine wpList_store_row rfl 27 _ _ rfl w.heap.size #[.int .i64 3,.int .i64 0,.int .i64 0,.slice none 0 0] rfl rfl _ _ HBZ.out.1 MdC.res_size rfl (by simp [Value.oneCell']) ?_))
   obtain ⟨f1,f2⟩ := fin_r HWZ.out HXZ.out HBZ.out.1 HBZ.out.2 (Nat.le_refl _) (resv_none _ (w.heap.size + 1) _ 3 0 0) (Nat.lt_succ_self _)
   exact MdC.ret_res (g := w.heap.size) rfl rfl f1 rfl f2
  ·have hlt : p.X.gap < p.X.n := by have := HdM.lst_le (fun i => if p.X.T i then (0 : Int) else -1) p.X.n;unfold Md.gap at hgp ⊢;omega
   have hgi : gapI p.X.T ν.n = (p.X.gap : Int) := by rw [ft.n];exact if_neg hgp
   have hTq : p.X.T p.X.gap = false := by
    have := HdM.lst_at (fun i => if p.X.T i then (0 : Int) else -1) p.X.n hlt
    change (if p.X.T p.X.gap then (0 : Int) else -1) = -1 at this
    cases e2 : p.X.T p.X.gap with
    | false => rfl
    | true => rw [e2] at this;exact absurd this (by decide)
   have hnw : p.X.new c = (⟨0,p.X.gap,(j : Int),[]⟩,(p.X.putT p.X.gap true).putH c j p.X.gap) := by
    unfold Md.new
    rw [if_neg (by rw [e];omega),if_neg hgp,e,Int.toNat_natCast]
   rw [hgi] at HGA
   generalize p.X.gap = q at *
   have hno : ∀ x,x < p.A.n → (p.A.F x).st = 1 → (p.A.F x).pg ≠ (q : Int) := fun x hx sx px => by
    have := (i.use x q hx sx px (by simp)).1
    rw [hTq] at this
    cases this
   have hc0 : (p.X.run (c : Int) o).1.c = 0 := by rw [hr,hnw]
   have hRM := room_any hx i hlt hno ft.K hl (by omega)
   have hgv : (hs p.X).give (c : Int) (q : Int) = (j : Int) := by rw [RgH.hs_give hc (by omega),e]
   have hgd : (hs p.X).gave (c : Int) (q : Int) = hs (p.X.putH c j (q : Int)) := RgH.hs_gave hc (by omega) e
   have hqb : ((q : Int) == -1) = false := by simp
   have hqz : (q : Int) < (ν.n : Int) := by rw [ft.n];omega
   have hact : p.act (c : Int) o (p.X.run (c : Int) o).1 = if (p.room (q : Int)).1.2 = 0 then ((p.room (q : Int)).1,⟨(p.room (q : Int)).2.X,(p.room (q : Int)).2.D,(p.room (q : Int)).2.A.mark (p.room (q : Int)).1.1 true,(p.room (q : Int)).2.L⟩) else p.room (q : Int) := by
    unfold Pl.act
    rw [if_pos ho,hr,hnw]
   have HRM := hid hRM
   unfold RoomPost at HRM
   have bad : ∀ (z : Int) (p' : Pl),z ≠ 0 → p'.X = p.X → p.room (q : Int) = ((-1,z),p') → Calls Tryz.prog 40 #[.pointer (some ⟨ν.r,0,none⟩),.int .i64 (c : Int)] w (RPost ν w col (p.run (c : Int) o).1 (p.run (c : Int) o).2.D (p.run (c : Int) o).2.A (p.run (c : Int) o).2.L (hs (p.run (c : Int) o).2.X) (p.run (c : Int) o).2.X.T) := fun z p' hz hX hroom => by
    rw [hroom] at hact HRM
    have hact : p.act (c : Int) o (p.X.run (c : Int) o).1 = ((-1,z),p') := hact.trans (if_neg hz)
    have E : Hid (p.run (c : Int) o = (MdM.err z,p')) := by
     unfold Hid
     rw [RfX.run_ok hc0,hact,RfX.fin_bad hz]
    rw [E.out,hX]
    have hzb : (z != 0) = true := by simpa using hz
    clear x i ft hc ho hl hk hr hb hg hx e E hnw hn48 hgi hgp hlt hTq hno hc0 hRM hgv hgd hact hX hroom
    go_enter Tryz.func40,Tryz.ntmps40
    go_upto_region 1 with (fail)
    generalize w.alloc (.cells #[.int .i64 0,.int .i64 0,.int .i64 0,.slice none 0 0] 27) = w0 at *
    generalize paint w.heap.size 0 col = c0 at *
    go_wp2_with (first
     | (go_at_call 88;(with_reducible refine HGA.out.mono ?_);rintro e w1 ⟨rfl,rfl⟩)
     | (go_at_call 89;(with_reducible refine HRO.out.mono ?_);rintro e w1 ⟨rfl,rfl⟩)
     | (go_at_call 90;(with_reducible refine HRM.out.mono ?_);rintro e w2 ⟨rfl,c2',hw2,hm2⟩;have HWL := hid (HW.out.trans hw2);have HBL := hid (Went.blk hw2 HB.out HC.out);have HXL := hid hm2;have HLT2 : Hid (w.heap.size < w2.heap.size) := Nat.lt_of_lt_of_le HLT.out hw2.kept.size;clear hw2 hm2)
     | (go_at_call 39;(with_reducible refine (code_any _ _).mono ?_);rintro e wz ⟨rfl,hg⟩;have HG := hid hg;have HWZ := hid (HWL.out.trans (Went.grow hg));have HXZ := hid (HXL.out.grow hg);have HBZ := hid (Went.blk (Went.grow hg) HBL.out.1 HBL.out.2);clear hg)
     | (refine wpList_store_row rfl 27 _ _ rfl w.heap.size #[.int .i64 z,.int .i64 0,.int .i64 0,.slice none 0 0] rfl rfl _ _ HBZ.out.1 MdC.res_size rfl (by simp [Value.oneCell']) ?_))
    obtain ⟨f1,f2⟩ := fin_r HWZ.out HXZ.out HBZ.out.1 HBZ.out.2 (Nat.le_refl _) (resv_none _ (w.heap.size + 1) _ z 0 0) (Nat.lt_succ_self _)
    exact MdC.ret_res (g := w.heap.size) rfl rfl f1 rfl f2
   rcases RfR.room_spec i hlt hno with ⟨f,p',hroom,hgo,_⟩ | ⟨hroom,_⟩ | ⟨p',hroom,hgo,_⟩
   ·rw [hroom] at hact HRM
    have hact : p.act (c : Int) o (p.X.run (c : Int) o).1 = (((f : Int),0),⟨p'.X,p'.D,p'.A.mark (f : Int) true,p'.L⟩) := hact.trans (if_pos rfl)
    have E : Hid (p.run (c : Int) o = (⟨0,q,(j : Int),[]⟩,⟨(p.X.putT q true).putH c j q,p'.D,(p'.A.mark (f : Int) true).pin (f : Int),p'.L⟩)) := by
     unfold Hid
     rw [RfX.run_ok hc0,hact,RfX.fin_ok rfl,hr,hnw]
     dsimp only
     rw [if_pos (by omega)]
    rw [E.out]
    have HGV := hid hgv
    have HGD := hid hgd
    have HQ : Hid (q < ν.n) := by show q < ν.n;rw [ft.n];exact hlt
    clear x i ft hc ho hl hk hr hb hg hx e E hnw hn48 hgi hgp hlt hTq hno hc0 hRM hgv hgd hact bad hgo hroom
    go_enter Tryz.func40,Tryz.ntmps40
    go_upto_region 1 with (fail)
    generalize w.alloc (.cells #[.int .i64 0,.int .i64 0,.int .i64 0,.slice none 0 0] 27) = w0 at *
    generalize paint w.heap.size 0 col = c0 at *
    go_upto_region 9 with (first
     | (go_at_call 88;(with_reducible refine HGA.out.mono ?_);rintro e w1 ⟨rfl,rfl⟩)
     | (go_at_call 89;(with_reducible refine HRO.out.mono ?_);rintro e w1 ⟨rfl,rfl⟩)
     | (go_at_call 90;(with_reducible refine HRM.out.mono ?_);rintro e w2 ⟨rfl,c2',hw2,hm2⟩;have HWL := hid (HW.out.trans hw2);have HBL := hid (Went.blk hw2 HB.out HC.out);have HXL := hid hm2;have HLT2 : Hid (w.heap.size < w2.heap.size) := Nat.lt_of_lt_of_le HLT.out hw2.kept.size;have d1 := hm2.c1;have HMK := hid (ArD.mark_any hm2.arena (f : Int) true);clear hw2 hm2))
    clear e2 e4
    go_upto_region 10 with (go_at_call 91;(with_reducible refine HMK.out.mono ?_);rintro e w3 ⟨rfl,ha,hk⟩;obtain ⟨c3,hw3,hm3⟩ := HXL.out.setA ha hk;have HW3 := hid (HWL.out.trans hw3);have HB3 := hid (Went.blk hw3 HBL.out.1 HBL.out.2);have HLT3 : Hid (w.heap.size < w3.heap.size) := Nat.lt_of_lt_of_le HLT2.out hw3.kept.size;have d4 := hm3.c4;have t3 := hm3.th.cell HQ.out;have z3 := hm3.th.frozen q;have HX3 := hid hm3;clear ha hk hw3 hm3 d1)
    unfold tcell at t3
    go_upto_region 11 with (fail)
    have HT4 := hid (HX3.out.setT q true)
    obtain ⟨c4,hw4,hm4⟩ := HT4.out
    have HWH := hid (HW3.out.trans hw4)
    have HBH := hid (Went.blk hw4 HB3.out.1 HB3.out.2)
    have HLT5 : Hid (w.heap.size < (w3.setCell ⟨ν.t,q,none⟩ (.bool true)).heap.size) := Nat.lt_of_lt_of_le HLT3.out hw4.kept.size
    have HHA := hid (hand_any hm4 (c : Int) (q : Int) (f : Int))
    clear hw4 hm4 t3 z3 d4 HT4
    generalize w3.setCell ⟨ν.t,q,none⟩ (.bool true) = w4 at *
    rw [HGV.out] at HHA
    go_wp2_with (first
     | (go_at_call 92;(with_reducible refine HHA.out.mono ?_);rintro e w5 ⟨rv,c5,rfl,hv,hw5,hm5⟩;obtain ⟨A5,n5,k5,rfl,hv2⟩ := hv;have HV5 : Hid (ResV w5 _ c5 _ _) := ⟨A5,n5,k5,rfl,hv2⟩;have HW5 := hid (HWH.out.trans hw5);have HX5 := hid hm5;have HB5 := hid (Went.blk hw5 HBH.out.1 HBH.out.2);clear hv2 hw5 hm5)
     | (refine wpList_store_row rfl 27 _ _ rfl w.heap.size #[.int .i64 0,.int .i64 (q : Int),.int .i64 (j : Int),.slice A5 n5 k5] rfl rfl _ _ HB5.out.1 MdC.res_size rfl (by simp [Value.oneCell']) ?_))
    obtain ⟨f1,f2⟩ := fin_r HW5.out HX5.out HB5.out.1 HB5.out.2 (Nat.le_refl _) HV5.out HLT5.out
    refine MdC.ret_res (g := w.heap.size) rfl rfl f1 rfl ?_
    rw [HGD.out] at f2
    exact f2
   ·exact bad 8 p (by decide) rfl hroom
   ·exact bad 9 p' (by decide) hgo.X hroom
end
end RgF
end Go.Proofs.YtbnkpnllgoghnaaGreat
