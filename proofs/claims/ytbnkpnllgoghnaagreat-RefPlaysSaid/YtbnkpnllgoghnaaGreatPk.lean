import Derived.Test.YtbnkpnllgoghnaaGreatPj
set_option linter.unusedVariables false
namespace Go.Proofs.YtbnkpnllgoghnaaGreat
open Go.Lib (hid)
namespace MdK
open Go.ChangeShapes Go.WideShapes Go.ChangeAt Go.RowKit
open Mem Blk Cells Orow GrC MdM MdC MdR
theorem inforows_str : (Tryz.prog.info? 9).map (fun i => (i.zero,i.size,i.bytes)) = some (some (.string ⟨#[]⟩),1,16) := by kernel_rfl
structure Mk1 (w : World) (d j : Nat) (T : Nat → Bool) (Bs : Nat → List Int) (vT vB : Value) : Prop where
 bx : Blk w d 50 [vT,vB,.slice none 0 0]
 T : OS w (d + 1 ≤ ·) vT 4 1 j (tcell T)
 B : OS w (d + 1 ≤ ·) vB 9 1 j (bcell Bs)
 dis : ∀ x,vT.ownBlock = some x → vB.ownBlock ≠ some x
structure Mk2 (w : World) (d m2 n k : Nat) (T : Nat → Bool) (Bs : Nat → List Int) (H : Nat → Nat → Int) (vT vB vH : Value) (q cp : Nat → Nat) : Prop where
 bx : Blk w d 50 [vT,vB,vH]
 T : OS w (fun x => d + 1 ≤ x ∧ x < m2) vT 4 1 n (tcell T)
 B : OS w (fun x => d + 1 ≤ x ∧ x < m2) vB 9 1 n (bcell Bs)
 dis : ∀ x,vT.ownBlock = some x → vB.ownBlock ≠ some x
 H : Gr w (fun x => d + 1 ≤ x ∧ m2 ≤ x) vH k q cp H
section
variable {w w' x1 x2 x3 x4 : World} {d m2 j n k gT' gB' c2 c4 : Nat} {T : Nat → Bool} {Bs : Nat → List Int} {H : Nat → Nat → Int} {vT vB vH : Value} {q cp : Nat → Nat} {u2 u4 : Nat → Value}
theorem os_gr {t : TypeId} {s n : Nat} {G : Nat → Prop} {v : Value} {f : Nat → Value} (h : OS w G v t s n f) (hk : Grow w w') : OS w' G v t s n f := h.kept hk fun _ _ x => x
theorem os_keep {t : TypeId} {s n : Nat} {G F : Nat → Prop} {v : Value} {f : Nat → Value} (h : OS w G v t s n f) (hk : Kept F w w') (hF : ∀ k,v.ownBlock = some k → ¬ F k) : OS w' G v t s n f := by
 rcases h with h | ⟨g,cap,e,ho,hg⟩
 ·exact .inl h
 ·exact .inr ⟨g,cap,e,ho.kept hk (hF g (by rw [e];rfl)),hg⟩
theorem Mk2.grow (h : Mk2 w d m2 n k T Bs H vT vB vH q cp) (hk : Grow w w') : Mk2 w' d m2 n k T Bs H vT vB vH q cp := ⟨h.bx.grow hk,os_gr h.T hk,os_gr h.B hk,h.dis,h.H.kept hk fun _ _ x => x⟩
theorem Mk1.nil (hb : Blk w d 50 [.slice none 0 0,.slice none 0 0,.slice none 0 0]) : Mk1 w d 0 T Bs (.slice none 0 0) (.slice none 0 0) :=
 ⟨hb,.inl ⟨rfl,rfl⟩,.inl ⟨rfl,rfl⟩,fun x e => by cases e⟩
theorem Mk1.go (h : Mk1 w d n T Bs vT vB) : Mk2 w d w.heap.size n 0 T Bs H vT vB (.slice none 0 0) id id :=
 ⟨h.bx,os_mono h.T fun _ hk x => ⟨x,hk⟩,os_mono h.B fun _ hk x => ⟨x,hk⟩,h.dis,gr_nil _ _ _ _ _⟩
theorem Mk1.two (h : Mk1 w d j T Bs vT vB) (g1 : Grow w x1) (ho2 : OR x2 gT' 4 1 c2 (j + 1) (joined (tcell T) u2 (j * 1))) (e2 : u2 0 = .bool (T j)) (hk2 : Kept (fun k => vT.ownBlock = some k) x1 x2) (hb2 : vT.ownBlock = some gT' ∨ gT' = x1.heap.size)
  (g3 : Grow x2 x3) (ho4 : OR x4 gB' 9 1 c4 (j + 1) (joined (bcell Bs) u4 (j * 1))) (e4 : u4 0 = .string (strOfNums (Bs j))) (hk4 : Kept (fun k => vB.ownBlock = some k) x3 x4) (hb4 : vB.ownBlock = some gB' ∨ gB' = x3.heap.size) :
  Mk1 ((x4.setCell ⟨d,0,none⟩ (.slice (some ⟨gT',0,none⟩) (j + 1) c2)).setCell ⟨d,1,none⟩ (.slice (some ⟨gB',0,none⟩) (j + 1) c4)) d (j + 1) T Bs (.slice (some ⟨gT',0,none⟩) (j + 1) c2) (.slice (some ⟨gB',0,none⟩) (j + 1) c4) ∧
  Kept (d ≤ ·) w ((x4.setCell ⟨d,0,none⟩ (.slice (some ⟨gT',0,none⟩) (j + 1) c2)).setCell ⟨d,1,none⟩ (.slice (some ⟨gB',0,none⟩) (j + 1) c4)) ∧
  Blk x4 d 50 [vT,vB,.slice none 0 0] := by
 have hd := h.bx.lt
 have s1 := g1.size
 have s2 := hk2.size
 have s3 := g3.size
 have s4 := hk4.size
 have oT : ∀ k,vT.ownBlock = some k → d + 1 ≤ k ∧ k < w.heap.size := fun k e => os_in h.T e
 have oB : ∀ k,vB.ownBlock = some k → d + 1 ≤ k ∧ k < w.heap.size := fun k e => os_in h.B e
 have hgT : d + 1 ≤ gT' := by
  rcases hb2 with e | e
  ·exact (oT _ e).1
  ·omega
 have hgB : d + 1 ≤ gB' := by
  rcases hb4 with e | e
  ·exact (oB _ e).1
  ·omega
 have hTB : vB.ownBlock ≠ some gT' := fun e => by
  rcases hb2 with e2 | e2
  ·exact h.dis _ e2 e
  ·have := (oB _ e).2;omega
 have hne : gT' ≠ gB' := fun e => by
  rcases hb4 with e4 | e4
  ·exact hTB (e ▸ e4)
  ·have := ho2.lt;omega
 have hb : Blk x4 d 50 [vT,vB,.slice none 0 0] := (((h.bx.grow g1).kept hk2 (fun e => by have := (oT _ e).1;omega)).grow g3).kept hk4 (fun e => by have := (oB _ e).1;omega)
 have ks : Kept (fun k => k = d) x4 ((x4.setCell ⟨d,0,none⟩ (.slice (some ⟨gT',0,none⟩) (j + 1) c2)).setCell ⟨d,1,none⟩ (.slice (some ⟨gB',0,none⟩) (j + 1) c4)) := (kept_set x4 d 0 _).trans (kept_set _ d 1 _)
 have hT4 := (((ho2.kept g3 id).kept hk4 hTB).kept ks (fun e => by have e : gT' = d := e;omega))
 have hB4 := ho4.kept ks (fun e => by have e : gB' = d := e;omega)
 refine ⟨⟨(hb.set 0 _).set 1 _,.inr ⟨gT',c2,rfl,hT4.congr fun i hi => ?_,hgT⟩,.inr ⟨gB',c4,rfl,hB4.congr fun i hi => ?_,hgB⟩,fun x e e' => ?_⟩,?_,hb⟩
 ·unfold joined
  by_cases hi2 : i < j * 1
  ·rw [if_pos hi2]
  ·obtain rfl : i = j := by omega
   rw [if_neg hi2,show i - i * 1 = 0 by omega,e2];rfl
 ·unfold joined
  by_cases hi2 : i < j * 1
  ·rw [if_pos hi2]
  ·obtain rfl : i = j := by omega
   rw [if_neg hi2,show i - i * 1 = 0 by omega,e4];rfl
 ·injection e with e;injection e' with e';exact hne (e.trans e'.symm)
 ·exact ((((Grow.kept g1).trans (hk2.mono fun k _ e => by have := (oT k e).1;show d ≤ k;omega)).trans (Grow.kept g3)).trans (hk4.mono fun k _ e => by have := (oB k e).1;show d ≤ k;omega)).trans (ks.mono fun k _ (e : k = d) => by show d ≤ k;omega)
theorem Mk2.push {r c g cap : Nat} (h : Mk2 w d m2 n k T Bs H vT vB vH q cp) (hm : m2 ≤ w.heap.size) (hr : OR w r 3 1 c 6 (hcell (H k))) (hrm : d + 1 ≤ r ∧ m2 ≤ r) (hnr : ∀ i,i < k → q i ≠ r) (hvr : vH.ownBlock ≠ some r)
  (ho : OR w' g 33 1 cap (k + 1) (joined (scell q cp) (rcell r c) (k * 1))) (hk : Kept (fun x => vH.ownBlock = some x) w w') (hg : vH.ownBlock = some g ∨ g = w.heap.size) :
  Mk2 (w'.setCell ⟨d,2,none⟩ (.slice (some ⟨g,0,none⟩) (k + 1) cap)) d m2 n (k + 1) T Bs H vT vB (.slice (some ⟨g,0,none⟩) (k + 1) cap) (up q k r) (up cp k c) ∧
  Kept (d ≤ ·) w (w'.setCell ⟨d,2,none⟩ (.slice (some ⟨g,0,none⟩) (k + 1) cap)) ∧ Blk w' d 50 [vT,vB,vH] := by
 have hd := h.bx.lt
 have oH : ∀ x,vH.ownBlock = some x → (d + 1 ≤ x ∧ m2 ≤ x) ∧ x < w.heap.size := fun x e => os_in h.H.out e
 have hgr := h.H.push hr hrm hnr hvr ho hk hg (fun x hx => ⟨by omega,by omega⟩)
 have hb : Blk w' d 50 [vT,vB,vH] := h.bx.kept hk (fun e => by have := (oH _ e).1;omega)
 have ks : Kept (fun x => x = d) w' (w'.setCell ⟨d,2,none⟩ (.slice (some ⟨g,0,none⟩) (k + 1) cap)) := kept_set w' d 2 _
 refine ⟨⟨hb.set 2 _,os_keep (os_keep h.T hk fun x e e' => ?_) ks fun x e e' => ?_,os_keep (os_keep h.B hk fun x e e' => ?_) ks fun x e e' => ?_,h.dis,hgr.kept ks fun x hx e => ?_⟩,?_,hb⟩
 ·have := (oH x e').1;have := (os_in h.T e).1;omega
 ·have e' : x = d := e';have := (os_in h.T e).1;omega
 ·have := (oH x e').1;have := (os_in h.B e).1;omega
 ·have e' : x = d := e';have := (os_in h.B e).1;omega
 ·have e : x = d := e;have := hx.1;omega
 ·exact (hk.mono fun x _ e => by have := (oH x e).1;show d ≤ x;omega).trans (ks.mono fun x _ (e : x = d) => by show d ≤ x;omega)
theorem Mk2.at (h : Mk2 w d m2 n k T Bs H vT vB vH q cp) (hg : MdM.Good ⟨n,k,T,Bs,H⟩) : SAt w (d + 1 ≤ ·) (.agg #[vT,vB,vH]) ⟨n,k,T,Bs,H⟩ := by
 have hn := hg.n
 have hN := hg.N
 have hn : 0 < n := hn.1
 have hN : 0 < k := hN.1
 obtain ⟨gT,cT,rfl,oT,iT⟩ := h.T.form hn
 obtain ⟨gB,cB,rfl,oB,iB⟩ := h.B.form hn
 obtain ⟨gH,cH,rfl,oH,iH⟩ := h.H.out.form hN
 refine ⟨hg,gT,cT,gB,cB,gH,cH,q,cp,rfl,⟨oT,oB,oH,h.H.row,h.H.ne,⟨fun e => h.dis gT rfl (by rw [e];rfl),?_,?_⟩,fun i hi => ⟨?_,?_,fun e => h.H.off i hi (by rw [e];rfl)⟩,⟨iT.1,iB.1,iH.1⟩,fun i hi => (h.H.inG i hi).1⟩⟩
 ·have := iT.2;have := iH.2;omega
 ·have := iB.2;have := iH.2;omega
 ·have := iT.2;have := (h.H.inG i hi).2;omega
 ·have := iB.2;have := (h.H.inG i hi).2;omega
end
end MdK
namespace MdN
open Go.ChangeShapes Go.WideShapes Go.ChangeAt Go.RowKit
open Mem Blk Cells Orow GrC MdM MdC MdR MdK Stages Trees
theorem s_size : (Tryz.prog.info? 50).map (·.size) = some 3 := by kernel_rfl
theorem load_S {w : World} {g : Nat} {t : TypeId} {x y z : Value} (hg : Blk w g t [x,y,z]) : (loadVar 50 ⟨g,0,none⟩).run Tryz.prog w = .ok (.agg #[x,y,z]) w :=
 run_loadVar_row w g t 50 #[x,y,z] (0,0) _ hg Tryz.underlying50 rfl s_size
theorem ret_S {w : World} {fn : Func} {R : Ending → World → Prop} {act : Act} {p g : Nat} {t : TypeId} {x y z : Value} (h : fn.results = #[.cell p 50]) (hp : act.tmps.getD p undef = .pointer (some ⟨g,0,none⟩)) (hg : Blk w g t [x,y,z]) (hd : act.defers = []) (hR : R (.returned (.agg #[x,y,z])) w) : bodyPost Tryz.prog fn R .ret act w := by
 refine bodyPost_ret ?_ hd hR
 have hp' : act.tmps[p]?.getD undef = .pointer (some ⟨g,0,none⟩) := by simpa using hp
 simp [results,h,hp',asAddr,load_S hg]
def RNewP (n N : Nat) (w : World) (e : Ending) (w' : World) : Prop := ∃ v,e = .returned v ∧ SAt w' (w.heap.size ≤ ·) v (fresh n N) ∧ Grow w w'
def RZeroP (w : World) (e : Ending) (w' : World) : Prop := e = .returned (.agg #[.slice none 0 0,.slice none 0 0,.slice none 0 0]) ∧ Grow w w'
theorem two_new (w : World) : Grow w ((w.alloc (.cells #[.slice none 0 0,.slice none 0 0,.slice none 0 0] 50)).alloc (.cells #[.slice none 0 0,.slice none 0 0,.slice none 0 0] 50)) ∧
  Blk ((w.alloc (.cells #[.slice none 0 0,.slice none 0 0,.slice none 0 0] 50)).alloc (.cells #[.slice none 0 0,.slice none 0 0,.slice none 0 0] 50)) w.heap.size 50 [.slice none 0 0,.slice none 0 0,.slice none 0 0] ∧
  Blk ((w.alloc (.cells #[.slice none 0 0,.slice none 0 0,.slice none 0 0] 50)).alloc (.cells #[.slice none 0 0,.slice none 0 0,.slice none 0 0] 50)) (w.heap.size + 1) 50 [.slice none 0 0,.slice none 0 0,.slice none 0 0] := by
 have g1 : Grow w (w.alloc (.cells #[.slice none 0 0,.slice none 0 0,.slice none 0 0] 50)) := (Kept.refl _ _).alloc _
 have b1 := Blk.new w 50 [.slice none 0 0,.slice none 0 0,.slice none 0 0]
 have z1 : (w.alloc (.cells #[.slice none 0 0,.slice none 0 0,.slice none 0 0] 50)).heap.size = w.heap.size + 1 := by simp
 generalize w.alloc (.cells #[.slice none 0 0,.slice none 0 0,.slice none 0 0] 50) = u at *
 have g2 : Grow u (u.alloc (.cells #[.slice none 0 0,.slice none 0 0,.slice none 0 0] 50)) := (Kept.refl _ _).alloc _
 have b2 := Blk.new u 50 [.slice none 0 0,.slice none 0 0,.slice none 0 0]
 rw [z1] at b2
 exact ⟨g1.trans g2,b1.grow g2,b2⟩
theorem rnew_bad (p c : Int) (w : World) (h : ¬ ((1 ≤ p ∧ p ≤ 48) ∧ 1 ≤ c ∧ c ≤ 6)) : Calls Tryz.prog 49 #[.int .i64 p,.int .i64 c] w (RZeroP w) := by
 obtain ⟨hg,hb,hd⟩ := two_new w
 have HG := hid hg
 have HB := hid hb
 have HD := hid hd
 have FIN : ∀ (a b c : Value),Blk ((w.alloc (.cells #[.slice none 0 0,.slice none 0 0,.slice none 0 0] 50)).alloc (.cells #[.slice none 0 0,.slice none 0 0,.slice none 0 0] 50)) w.heap.size 50 [.slice none 0 0,.slice none 0 0,.slice none 0 0] := fun _ _ _ => HB.out
 obtain ⟨P,hP⟩ : ∃ P,P = RZeroP w := ⟨_,rfl⟩
 have HP := hid hP
 rw [← hP]
 clear hg hb hd FIN hP
 by_cases h1 : p < 1
 ·clear h
  go_enter Tryz.func49,Tryz.ntmps49
  go_upto_region 3 with (fail)
  generalize (w.alloc (.cells #[.slice none 0 0,.slice none 0 0,.slice none 0 0] 50)).alloc (.cells #[.slice none 0 0,.slice none 0 0,.slice none 0 0] 50) = w0 at HG HB HD ⊢
  have c0 := HD.out.cell 0
  have c1 := HD.out.cell 1
  have c2 := HD.out.cell 2
  have t0 := HB.out.cell 0
  have t1 := HB.out.cell 1
  have t2 := HB.out.cell 2
  have tf := HB.out.frozen
  simp only [ZeZ,ZeS] at c0 c1 c2 t0 t1 t2
  go_wp2
  have hb5 := (((HB.out.set 0 (.slice none 0 0)).set 1 (.slice none 0 0)).set 2 (.slice none 0 0))
  rw [HP.out]
  exact ret_S rfl rfl hb5 rfl ⟨rfl,HG.out.then (((kept_set w0 w.heap.size 0 _).trans (kept_set _ w.heap.size 1 _)).trans (kept_set _ w.heap.size 2 _)) fun x hx e => by have e : x = w.heap.size := e;omega⟩
 ·have h1' : 1 ≤ p := by omega
  by_cases h2 : 48 < p
  ·clear h h1
   go_enter Tryz.func49,Tryz.ntmps49
   go_upto_region 3 with (fail)
   generalize (w.alloc (.cells #[.slice none 0 0,.slice none 0 0,.slice none 0 0] 50)).alloc (.cells #[.slice none 0 0,.slice none 0 0,.slice none 0 0] 50) = w0 at HG HB HD ⊢
   have c0 := HD.out.cell 0
   have c1 := HD.out.cell 1
   have c2 := HD.out.cell 2
   have t0 := HB.out.cell 0
   have t1 := HB.out.cell 1
   have t2 := HB.out.cell 2
   have tf := HB.out.frozen
   simp only [ZeZ,ZeS] at c0 c1 c2 t0 t1 t2
   go_wp2
   have hb5 := (((HB.out.set 0 (.slice none 0 0)).set 1 (.slice none 0 0)).set 2 (.slice none 0 0))
   rw [HP.out]
   exact ret_S rfl rfl hb5 rfl ⟨rfl,HG.out.then (((kept_set w0 w.heap.size 0 _).trans (kept_set _ w.heap.size 1 _)).trans (kept_set _ w.heap.size 2 _)) fun x hx e => by have e : x = w.heap.size := e;omega⟩
  ·have h2' : p ≤ 48 := by omega
   by_cases h3 : c < 1
   ·clear h h1 h2
    go_enter Tryz.func49,Tryz.ntmps49
    go_upto_region 3 with (fail)
    generalize (w.alloc (.cells #[.slice none 0 0,.slice none 0 0,.slice none 0 0] 50)).alloc (.cells #[.slice none 0 0,.slice none 0 0,.slice none 0 0] 50) = w0 at HG HB HD ⊢
    have c0 := HD.out.cell 0
    have c1 := HD.out.cell 1
    have c2 := HD.out.cell 2
    have t0 := HB.out.cell 0
    have t1 := HB.out.cell 1
    have t2 := HB.out.cell 2
    have tf := HB.out.frozen
    simp only [ZeZ,ZeS] at c0 c1 c2 t0 t1 t2
    go_wp2
    have hb5 := (((HB.out.set 0 (.slice none 0 0)).set 1 (.slice none 0 0)).set 2 (.slice none 0 0))
    rw [HP.out]
    exact ret_S rfl rfl hb5 rfl ⟨rfl,HG.out.then (((kept_set w0 w.heap.size 0 _).trans (kept_set _ w.heap.size 1 _)).trans (kept_set _ w.heap.size 2 _)) fun x hx e => by have e : x = w.heap.size := e;omega⟩
   ·have h3' : 1 ≤ c := by omega
    have h4 : 6 < c := by omega
    clear h h1 h2 h3
    go_enter Tryz.func49,Tryz.ntmps49
    go_upto_region 3 with (fail)
    generalize (w.alloc (.cells #[.slice none 0 0,.slice none 0 0,.slice none 0 0] 50)).alloc (.cells #[.slice none 0 0,.slice none 0 0,.slice none 0 0] 50) = w0 at HG HB HD ⊢
    have c0 := HD.out.cell 0
    have c1 := HD.out.cell 1
    have c2 := HD.out.cell 2
    have t0 := HB.out.cell 0
    have t1 := HB.out.cell 1
    have t2 := HB.out.cell 2
    have tf := HB.out.frozen
    simp only [ZeZ,ZeS] at c0 c1 c2 t0 t1 t2
    go_wp2
    have hb5 := (((HB.out.set 0 (.slice none 0 0)).set 1 (.slice none 0 0)).set 2 (.slice none 0 0))
    rw [HP.out]
    exact ret_S rfl rfl hb5 rfl ⟨rfl,HG.out.then (((kept_set w0 w.heap.size 0 _).trans (kept_set _ w.heap.size 1 _)).trans (kept_set _ w.heap.size 2 _)) fun x hx e => by have e : x = w.heap.size := e;omega⟩
section
variable {w : World}
def N1 (w0 : World) (d j : Nat) (wr : World) : Prop := ∃ vT vB,Mk1 wr d j (fun _ => false) (fun _ => zeros) vT vB ∧ Kept (d ≤ ·) w0 wr
def N2 (w0 : World) (d m2 n k : Nat) (wr : World) : Prop := ∃ vT vB vH q cp,Mk2 wr d m2 n k (fun _ => false) (fun _ => zeros) (fun _ _ => -1) vT vB vH q cp ∧ Kept (d ≤ ·) w0 wr ∧ m2 ≤ wr.heap.size
set_option maxHeartbeats 8000000 in
theorem rnew_any (n N : Nat) (h1 : 1 ≤ n) (h2 : n ≤ 48) (h3 : 1 ≤ N) (h4 : N ≤ 6) (w : World) : Calls Tryz.prog 49 #[.int .i64 (n : Int),.int .i64 (N : Int)] w (RNewP n N w) := by
 have hn1 : 1 ≤ (n : Int) := by omega
 have hn2 : (n : Int) ≤ 48 := by omega
 have hn3 : 1 ≤ (N : Int) := by omega
 have hn4 : (N : Int) ≤ 6 := by omega
 have HNn := hid (And.intro h1 h2)
 have HNN := hid (And.intro h3 h4)
 obtain ⟨hg,hb,hd⟩ := two_new w
 have HG0 := hid hg
 have HB0 := hid hb
 have HD0 := hid hd
 obtain ⟨P,hP⟩ : ∃ P,P = RNewP n N w := ⟨_,rfl⟩
 have HP := hid hP
 rw [← hP]
 clear h1 h2 h3 h4 hP hg hb hd
 go_enter Tryz.func49,Tryz.ntmps49
 go_upto_region 4 with (fail)
 generalize (w.alloc (.cells #[.slice none 0 0,.slice none 0 0,.slice none 0 0] 50)).alloc (.cells #[.slice none 0 0,.slice none 0 0,.slice none 0 0] 50) = w0 at HG0 HB0 HD0 ⊢
 obtain ⟨d,hdd⟩ : ∃ d,d = w.heap.size + 1 := ⟨_,rfl⟩
 rw [← hdd] at HD0 ⊢
 obtain ⟨B,hB⟩ : ∃ B,B = w.heap.size := ⟨_,rfl⟩
 rw [← hB] at HB0 hdd ⊢
 have HBD := hid (And.intro hB hdd)
 clear hB hdd
 go_wp2
 go_loopg [6] n (fun gx i wr => ∃ j : Nat,j + gx = n ∧ i = .int .i64 (j : Int) ∧ N1 w0 d j wr)
 case atStart => exact ⟨0,by omega,rfl,_,_,Mk1.nil HD0.out,Kept.refl _ _⟩
 case round =>
  obtain ⟨j,hg,rfl,vT,vB,hmk,hgr⟩ := hrel
  have HG := hid hg
  have HMK := hid hmk
  have HGR := hid hgr
  clear hg hmk hgr
  by_cases hj : j < n
  ·have hjz : (j : Int) < (n : Int) := by omega
   have HJ := hid hj
   obtain ⟨AT,kT,rfl⟩ := PmR.os_form HMK.out.T
   obtain ⟨AB,kB,rfl⟩ := PmR.os_form HMK.out.B
   have c0 := HMK.out.bx.cell 0
   have c1 := HMK.out.bx.cell 1
   simp only [ZeZ,ZeS] at c0 c1
   have HOT : Hid (∀ k,(Value.slice AT j kT).ownBlock = some k → d + 1 ≤ k) := fun k e => (os_in HMK.out.T e).1
   have HOB : Hid (∀ k,(Value.slice AB j kB).ownBlock = some k → d + 1 ≤ k) := fun k e => (os_in HMK.out.B e).1
   have HND : Hid (¬ ((Value.slice AT j kT).ownBlock = some d ∨ (Value.slice AB j kB).ownBlock = some d)) := fun e => e.elim (fun e => by have := HOT.out d e;omega) (fun e => by have := HOB.out d e;omega)
   have q0 := up_cell (F := fun k => (Value.slice AT j kT).ownBlock = some k ∨ (Value.slice AB j kB).ownBlock = some k) (w := wr.drew) (p := ⟨d,0,none⟩) c0 HND.out
   have q1 := up_cell (F := fun k => (Value.slice AT j kT).ownBlock = some k ∨ (Value.slice AB j kB).ownBlock = some k) (w := wr.drew) (p := ⟨d,1,none⟩) c1 HND.out
   clear c0 c1 hj
   go_upto_region 7 with (fail)
   refine wp_region_tree (Kept fun k => (Value.slice AT j kT).ownBlock = some k ∨ (Value.slice AB j kB).ownBlock = some k) (Kept fun k => ((Value.slice AT j kT).ownBlock = some k ∨ (Value.slice AB j kB).ownBlock = some k) ∨ k = d) (kept_refl _) (kept_trans _) (kept_refl _) (kept_trans _) (fun _ _ h => h.mono fun _ _ x => .inl x) [10,12]
    (.one true [0,1,4,5] 2 (.one true [] 3 (.one true [9] 6 (.one true [] 7 (.one true [] 8 (.one false [] 10 (.one false [11] 12 (.last false [])))))))) (by kernel_rfl) (by kernel_rfl) ?_
   refine tr_oneE fun K hK => ?_
   simp only [sel,ZmC,ZmN,ZgS,ZgZ]
   repeat (go_big_quiet_step (fail))
   refine wpQuiet_nil ?_
   clear q0 q1
   go_wp2
   refine norm_up (hK _ _ (Lr_early (by decide) (show Kept _ wr.drew (wr.alloc (.cells #[.bool false] 4)).drew from (Kept.refl _ wr.drew).alloc (.cells #[.bool false] 4))) ?_)
   clear hK K
   have HX1 : Hid ((wr.alloc (.cells #[.bool false] 4)).drew.cell? ⟨wr.heap.size,0,none⟩ = some (.bool false)) := cell_new1 wr _ _
   have HG1 : Hid (Grow wr (wr.alloc (.cells #[.bool false] 4)).drew) := ((Kept.refl _ wr).alloc _).drew
   generalize (wr.alloc (.cells #[.bool false] 4)).drew = x1 at HX1 HG1 ⊢
   obtain ⟨i0,hi0,hz0,hz1,hz2⟩ := info_parts PmK.infoclone_bools
   obtain ⟨g2,cap2,x2,hr2,ho2,hk2,hb2⟩ := append_or (P := Tryz.prog) 46 0 i0 _ 1 Tryz.underlying46 hi0 hz0 hz1 hz2 rfl (by omega) (os_gr HMK.out.T HG1.out) (by have := HJ.out;have := HNn.out;omega) (by omega) wr.heap.size 1 (u := fun _ => .bool false) (fun q hq => by obtain rfl : q = 0 := (by omega);exact HX1.out) (fun q hq => rfl)
   have HR2 : Hid (∀ ty,(Builtin.append_ #[46,46] ty #[.slice AT j kT,.slice (some ⟨wr.heap.size,0,none⟩) 1 1]).run Tryz.prog x1 = .ok (.slice (some ⟨g2,0,none⟩) (j + 1) cap2) x2) := fun ty => hr2
   have HO2 := hid ho2
   have HK2 := hid hk2
   have HB2 := hid hb2
   clear hr2 ho2 hk2 hb2 hi0 hz0 hz1 hz2
   refine tr_oneE fun K hK => ?_
   simp only [sel,ZmC,ZmN,ZgS,ZgZ]
   refine wpQuiet_nil ?_
   go_wp2_with (at_builtin;refine Lib.wpList_append_run _ rfl _ _ _ _ rfl _ _ rfl rfl _ _ (HR2.out _) ?_)
   refine norm_up (hK _ _ (Lr_early (by decide) (HK2.out.mono fun k _ e => .inl e)) ?_)
   clear hK K
   refine tr_oneE fun K hK => ?_
   simp only [sel,ZmC,ZmN,ZgS,ZgZ]
   repeat (go_big_quiet_step (fail))
   refine wpQuiet_nil ?_
   go_wp2_with (go_at_call 109;(with_reducible refine (zeros_any _).mono ?_);rintro e xz ⟨rfl,hgz⟩;have HGZ := hid hgz;clear hgz)
   refine norm_up (hK _ _ (Lr_early (by decide) (Grow.kept HGZ.out)) ?_)
   clear hK K
   refine tr_oneE fun K hK => ?_
   simp only [sel,ZmC,ZmN,ZgS,ZgZ]
   refine wpQuiet_nil ?_
   go_wp2
   refine norm_up (hK _ _ (Lr_early (by decide) ((Kept.refl _ _).alloc _)) ?_)
   clear hK K
   have HX3 : Hid ((xz.alloc (.cells #[.string (strOfNums zeros)] 9)).cell? ⟨xz.heap.size,0,none⟩ = some (.string (strOfNums zeros))) := cell_new1 _ _ _
   have HG3 : Hid (Grow x2 (xz.alloc (.cells #[.string (strOfNums zeros)] 9))) := HGZ.out.alloc _
   generalize xz.alloc (.cells #[.string (strOfNums zeros)] 9) = x3 at HX3 HG3 ⊢
   have HB3 : Hid (OS x3 (d + 1 ≤ ·) (.slice AB j kB) 9 1 j (bcell fun _ => zeros)) := os_gr (os_keep (os_gr HMK.out.B HG1.out) HK2.out fun k e e2 => HMK.out.dis k e2 e) HG3.out
   obtain ⟨i0,hi0,hz0,hz1,hz2⟩ := info_parts inforows_str
   obtain ⟨g4,cap4,x4,hr4,ho4,hk4,hb4⟩ := append_or (P := Tryz.prog) 47 0 i0 _ 16 Tryz.underlying47 hi0 hz0 hz1 hz2 rfl (by omega) HB3.out (by have := HJ.out;have := HNn.out;omega) (by omega) xz.heap.size 1 (u := fun _ => .string (strOfNums zeros)) (fun q hq => by obtain rfl : q = 0 := (by omega);exact HX3.out) (fun q hq => rfl)
   have HR4 : Hid (∀ ty,(Builtin.append_ #[47,47] ty #[.slice AB j kB,.slice (some ⟨xz.heap.size,0,none⟩) 1 1]).run Tryz.prog x3 = .ok (.slice (some ⟨g4,0,none⟩) (j + 1) cap4) x4) := fun ty => hr4
   obtain ⟨hm5,hk5,hbx⟩ := HMK.out.two HG1.out HO2.out rfl HK2.out HB2.out HG3.out ho4 rfl hk4 hb4
   have HK4 := hid hk4
   have HM5 := hid hm5
   have HK5 := hid hk5
   have HBX := hid hbx
   clear hr4 ho4 hk4 hb4 hi0 hz0 hz1 hz2 hm5 hk5 hbx
   refine tr_oneE fun K hK => ?_
   simp only [sel,ZmC,ZmN,ZgS,ZgZ]
   refine wpQuiet_nil ?_
   go_wp2_with (at_builtin;refine Lib.wpList_append_run _ rfl _ _ _ _ rfl _ _ rfl rfl _ _ (HR4.out _) ?_)
   refine norm_up (hK _ _ (Lr_early (by decide) (HK4.out.mono fun k _ e => .inr e)) ?_)
   clear hK K
   have c0 := HBX.out.cell 0
   simp only [List.getElem?_cons_zero] at c0
   have f0 := HBX.out.frozen 0
   have c1 := (HBX.out.set 0 (.slice (some ⟨g2,0,none⟩) (j + 1) cap2)).cell 1
   simp only [List.set_cons_zero,ZeZ,ZeS] at c1
   have f1 := (HBX.out.set 0 (.slice (some ⟨g2,0,none⟩) (j + 1) cap2)).frozen 1
   refine tr_oneL fun K hK => ?_
   simp only [sel,ZmC,ZmN,ZgS,ZgZ]
   repeat (go_big_quiet_step (fail))
   refine wpQuiet_nil ?_
   go_wp2
   refine norm_up (hK _ _ (Lr_late (by decide) ((kept_set _ _ _ _).mono fun k _ e => .inr e)) ?_)
   clear hK K c0 f0
   refine tr_oneL fun K hK => ?_
   simp only [sel,ZmC,ZmN,ZgS,ZgZ]
   repeat (go_big_quiet_step (fail))
   refine wpQuiet_nil ?_
   go_wp2
   refine norm_up (hK _ _ (Lr_late (by decide) ((kept_set _ _ _ _).mono fun k _ e => .inr e)) ?_)
   clear hK K c1 f1
   refine tr_lastL fun K hK => ?_
   simp only [sel,List.map_nil]
   refine wpQuiet_nil (hK _ ?_)
   clear hK K
   go_wp2
   go_roundg (gk - 1)
   case measure => have := HG.out;have := HJ.out;omega
   case rel => exact ⟨j + 1,by have := HG.out;have := HJ.out;omega,by go_num,_,_,HM5.out,HGR.out.trans HK5.out⟩
  ·obtain rfl : j = n := by have := HG.out;omega
   clear hj HG
   obtain ⟨wq,rfl⟩ : ∃ wq,wq = wr := ⟨_,rfl⟩
   go_wp2
   go_loopg [7] N (fun gx i wr => ∃ k : Nat,k + gx = N ∧ i = .int .i64 (k : Int) ∧ N2 w0 d wq.heap.size j k wr)
   case atStart => exact ⟨0,by omega,rfl,_,_,_,_,_,HMK.out.go,HGR.out,Nat.le_refl _⟩
   case round =>
    clear HMK HGR
    obtain ⟨k,hg,rfl,vT,vB,vH,q,cp,hmk,hgr,hle⟩ := hrel
    have HG := hid hg
    have HMK := hid hmk
    have HGR := hid hgr
    have HLE := hid hle
    clear hg hmk hgr hle
    by_cases hj : k < N
    ·have hjz : (k : Int) < (N : Int) := by omega
     have HJ := hid hj
     obtain ⟨AH,kH,rfl⟩ := PmR.os_form HMK.out.H.out
     have c2 := HMK.out.bx.cell 2
     simp only [ZeZ,ZeS] at c2
     clear hj
     obtain ⟨x1,hx1⟩ : ∃ x1,x1 = wr.alloc (.cells #[.int .i64 (-1),.int .i64 (-1),.int .i64 (-1),.int .i64 (-1),.int .i64 (-1),.int .i64 (-1)] 3) := ⟨_,rfl⟩
     obtain ⟨x3,hx3⟩ : ∃ x3,x3 = x1.alloc (.cells #[.slice (some ⟨wr.heap.size,0,none⟩) 6 6] 33) := ⟨_,rfl⟩
     have HRO : Hid (OR x1 wr.heap.size 3 1 6 6 (hcell fun _ => -1)) := by rw [hx1];exact six_lit wr
     have HG1 : Hid (Grow wr x1) := by rw [hx1];exact (Kept.refl _ wr).alloc _
     have HG3 : Hid (Grow x1 x3) := by rw [hx3];exact (Kept.refl _ x1).alloc _
     have hsz1 : x1.heap.size = wr.heap.size + 1 := by rw [hx1];simp
     have HX3 : Hid (x3.cell? ⟨wr.heap.size + 1,0,none⟩ = some (.slice (some ⟨wr.heap.size,0,none⟩) 6 6)) := by rw [hx3,← hsz1];exact cell_new1 _ _ _
     have HM3 := hid ((HMK.out.grow HG1.out).grow HG3.out)
     have HR3 := hid (HRO.out.kept HG3.out id)
     obtain ⟨g4,cap4,x4,hr4,ho4,hk4,hb4⟩ := Gr.app HM3.out.H (by have := HJ.out;have := HNN.out;omega) HX3.out
     have z1 := HG1.out.size
     have z3 := HG3.out.size
     have zd := HMK.out.bx.lt
     have zl := HLE.out
     obtain ⟨hm5,hk5,hbx⟩ := HM3.out.push (by omega) HR3.out ⟨by omega,by omega⟩ (fun i hi e => by have := (HMK.out.H.row i hi).lt;omega) (fun e => by have := (os_in HMK.out.H.out e).2;omega) ho4 hk4 hb4
     rw [hx3,hx1] at hr4
     have HR4 := hid hr4
     have HM5 := hid hm5
     have HK5 := hid hk5
     have HG13 : Hid (Grow wr x3) := HG1.out.trans HG3.out
     have c4 := hbx.cell 2
     have f4 := hbx.frozen 2
     simp only [ZeZ,ZeS] at c4
     have HSZ5 : Hid (wq.heap.size ≤ (x4.setCell ⟨d,2,none⟩ (.slice (some ⟨g4,0,none⟩) (k + 1) cap4)).heap.size) := by have := hk5.size;show _ ≤ _;omega
     clear hr4 ho4 hk4 hb4 hm5 hk5 hbx hx1 hx3 hsz1 z1 z3 zd zl
     go_wp2_with (at_builtin;refine Lib.wpList_append_run _ rfl _ _ _ _ rfl _ _ rfl rfl _ _ (HR4.out _) ?_)
     go_roundg (gk - 1)
     case measure => have := HG.out;have := HJ.out;omega
     case rel => exact ⟨k + 1,by have := HG.out;have := HJ.out;omega,by go_num,_,_,_,_,_,HM5.out,(HGR.out.trans (Grow.kept HG13.out)).trans HK5.out,HSZ5.out⟩
    ·obtain rfl : k = N := by have := HG.out;omega
     clear hj HG
     obtain ⟨AT,kT,rfl⟩ := PmR.os_form HMK.out.T
     obtain ⟨AB,kB,rfl⟩ := PmR.os_form HMK.out.B
     obtain ⟨AH,kH,rfl⟩ := PmR.os_form HMK.out.H.out
     have HBR := hid (HB0.out.kept HGR.out (fun (e : d ≤ B) => by have := HBD.out;omega))
     have c0 := HMK.out.bx.cell 0
     have c1 := HMK.out.bx.cell 1
     have c2 := HMK.out.bx.cell 2
     have t0 := HBR.out.cell 0
     have t1 := HBR.out.cell 1
     have t2 := HBR.out.cell 2
     have tf := HBR.out.frozen
     simp only [ZeZ,ZeS] at c0 c1 c2 t0 t1 t2
     go_wp2
     have hb5 := (((HBR.out.set 0 (.slice AT j kT)).set 1 (.slice AB j kB)).set 2 (.slice AH k kH))
     have hk5 : Kept (fun x => x = B) wr (((wr.setCell ⟨B,0,none⟩ (.slice AT j kT)).setCell ⟨B,1,none⟩ (.slice AB j kB)).setCell ⟨B,2,none⟩ (.slice AH k kH)) := ((kept_set wr B 0 _).trans (kept_set _ B 1 _)).trans (kept_set _ B 2 _)
     rw [HP.out]
     have hpa : SAt wr (d + 1 ≤ ·) (.agg #[(.slice AT j kT),(.slice AB j kB),(.slice AH k kH)]) (fresh j k) := HMK.out.at (good_fresh HNn.out.1 HNn.out.2 HNN.out.1 HNN.out.2)
     exact ret_S rfl rfl hb5 rfl ⟨_,rfl,(hpa.kept hk5 fun x (hx : d + 1 ≤ x) e => by have e : x = B := e;have := HBD.out;omega).mono (fun x _ (hx : d + 1 ≤ x) => by have := HBD.out;show w.heap.size ≤ x;omega),(HG0.out.then HGR.out fun x hx (e : d ≤ x) => by have := HBD.out;omega).then hk5 fun x hx (e : x = B) => by have := HBD.out;omega⟩
end
end MdN
namespace MdCl
open Go.ChangeShapes Go.WideShapes Go.ChangeAt Go.RowKit
open Mem Blk Cells Orow MdM
open PmR
theorem clone_run2 {P : Program} {w : World} {n : Nat} {f : Nat → Value} (T e : TypeId) (z : Value) (bytes : Nat) (hT : P.underlying T = some (.slice e))
  (hinfo : (P.info? e).map (fun i => (i.zero,i.size,i.bytes)) = some (some z,1,bytes)) (hzs : z.cells.size = 1) (hb : bytes ≤ 1000) (a : Addr) (hc : 0 < n → ∃ b off,a = ⟨b,off,none⟩ ∧ ∀ j,j < n → w.cell? ⟨b,off + j,none⟩ = some (f j)) (h1 : ∀ j,j < n → (f j).oneCell' = true) (c : Nat) (hn : n ≤ 100000) :
  ∃ v' w',(∀ ty,(Builtin.append_ #[T,T] ty #[.slice (some ⟨w.heap.size,0,none⟩) 0 0,.slice (some a) n c]).run P (w.alloc (.cells #[] e)) = .ok v' w') ∧ OS w' (w.heap.size ≤ ·) v' e 1 n f ∧ v' ≠ .slice none 0 0 ∧ Grow w w' ∧ Kept (fun k => k = w.heap.size) (w.alloc (.cells #[] e)) w' := by
 obtain ⟨i,hi,hz,hs,hby⟩ := info_parts hinfo
 have hown : (w.alloc (.cells #[] e)).ownsRow w.heap.size e 1 (.slice (some ⟨w.heap.size,0,none⟩) 0 0) 0 [] :=
  ⟨rfl,.inr ⟨_,0,#[],rfl,Nat.le_refl _,heap_alloc_new w _,Nat.le_refl _,Nat.zero_le _,rfl,rfl⟩⟩
 obtain ⟨v',w',hr,h2,h3,h4,_⟩ := run_append_own_at (P := P) (w := w.alloc (.cells #[] e)) w.heap.size T 0 e i z 1 bytes hT hi hz hs hby hzs (by omega) _ 0 [] hown a n c ((List.range n).map f) (by simp)
  (fun j u hj => by
    have hjn : j < n := by
     have := (List.getElem?_eq_some_iff.1 hj).1
     simpa using this
    obtain ⟨b,off,rfl,hcc⟩ := hc (by omega)
    rw [add_off]
    refine Lib.cell?_alloc_some _ ?_
    rw [hcc j hjn,← hj]
    simp [hjn])
  (fun u hu => by
    obtain ⟨j,hj,rfl⟩ := List.mem_map.1 hu
    exact h1 j (List.mem_range.1 hj)) (by unfold maxLen;omega) (by
     have : (0 + n) * bytes ≤ 100000 * 1000 := Nat.mul_le_mul (by omega) hb
     omega) (by simp)
 rw [Nat.zero_add,List.nil_append] at h2
 refine ⟨v',w',fun ty => hr,?_,(fun e0 => by simpa using (h4.1 e0).1),((Kept.refl _ w).alloc _).grown h3 fun k hk hlt => ?_,(Kept.refl _ _).grown h3 fun k hk hlt => ?_⟩
 ·rcases h2.2 with ⟨e0,e1⟩ | ⟨g,cap,cur,e0,hbg,hcur,hle,hmax,hsz,htake⟩
  ·exact .inl ⟨e0,e1⟩
  ·refine .inr ⟨g,cap,e0,⟨cur,hcur,hsz,hle,hmax,fun j hj => ?_⟩,hbg⟩
   have hjn : j < n := by omega
   have : (cur.toList.take (n * 1))[j]? = ((List.range n).map f)[j]? := by rw [htake]
   rw [List.getElem?_take,if_pos hj] at this
   simpa [hjn] using this
 ·simp [Value.ownBlock] at hk
  omega
 ·simp [Value.ownBlock] at hk
  exact hk.symm
end MdCl
namespace Trees3
open Go Stages
inductive Tr
 | last (e : Bool) (q : List Nat)
 | look (e : Bool) (q : List Nat) (t : Tr)
 | one (e : Bool) (q : List Nat) (c : Nat) (t : Tr)
 | two (e : Bool) (q : List Nat) (c1 : Nat) (t1 : Tr) (c2 : Nat) (t2 : Tr)
 | three (e : Bool) (q : List Nat) (c1 : Nat) (t1 : Tr) (c2 : Nat) (t2 : Tr) (c3 : Nat) (t3 : Tr)
section
variable {P : Program} {ops : Array Oper} {R R' : World → World → Prop} {late : List Nat}
def Lr (late : List Nat) (R R' : World → World → Prop) (c : Nat) : World → World → Prop := if late.contains c then R' else R
def Er (e : Bool) (R R' : World → World → Prop) : World → World → Prop := if e then R else R'
def wpAnyL (P : Program) (ops : Array Oper) (L : Nat → World → World → Prop) (Qn : Act → World → Prop) : Nat → Array Bool → Act → World → Prop
 | 0,listed,a,w => Region.ready .any ops listed = [] ∧ Qn a w
 | fuel + 1,listed,a,w =>
  (Region.ready .any ops listed = [] → Qn a w) ∧
  ∀ i ∈ Region.ready .any ops listed,wpOp P ops (Norm fun _ _ => False) i (fun a' w' => L i w w' ∧ wpAnyL P ops L Qn fuel (listed.setIfInBounds i true) a' w') a w
theorem wpAny_of_L {L : Nat → World → World → Prop} {Q : Exit → Act → World → Prop} : ∀ (fuel : Nat) (listed : Array Bool) (a : Act) (w : World),wpAnyL P ops L (Q .normal) fuel listed a w → wpAny P .any ops Q fuel listed a w
 | 0,_,_,_,h => h
 | fuel + 1,_,_,_,h => ⟨h.1,fun i hi => wpOp_turn (fun _ _ _ hh => hh.elim) (fun ⟨_,_,hh⟩ => hh.elim) (wpOp_mono (fun a' w' hh => wpAny_of_L fuel _ a' w' hh.2) (h.2 i hi))⟩
theorem wpAnyL_first {L : Nat → World → World → Prop} {Ri : World → World → Prop} {Qn : Act → World → Prop} {i : Nat} {oi : Oper} {v : Value} (hr : ∀ a,Ri a a) (hl : ∀ j a,L j a a) (ht : ∀ a b c,Ri a b → Ri b c → Ri a c) (hi : ops[i]? = some oi) (hsel : ∀ (j : Nat) (o : Oper) cs b,ops[j]? = some o → o.op ≠ .select cs b) :
  ∀ (fuel : Nat) (listed : Array Bool) (a : Act) (w : World),
   (∀ j oj,ops[j]? = some oj → j ≠ i → listed.getD j true = false → (∀ e ∈ oj.after,Region.binds .any e = true → e.on ≠ i) → oi.apart ops oj = true ∧ ∀ u u',L j u u' → Ri u u') →
   i ∈ Region.ready .any ops listed → SureIn P ops Ri oi v a w →
   wpAnyL P ops L Qn fuel (listed.setIfInBounds i true) (a.put oi.dst v) w → wpAnyL P ops L Qn (fuel + 1) listed a w := by
 intro fuel
 induction fuel with
 | zero =>
  intro listed a w _ hrd hy H
  refine ⟨fun h => (by rw [h] at hrd;cases hrd),fun j hj => ?_⟩
  by_cases hji : j = i
  ·subst hji;exact hy.wpOp hr hi ⟨hl j w,H⟩
  ·have := ready_mono hj hji
   rw [H.1] at this
   cases this
 | succ fuel ih =>
  intro listed a w hfree hrd hy H
  refine ⟨fun h => (by rw [h] at hrd;cases hrd),fun j hj => ?_⟩
  by_cases hji : j = i
  ·subst hji;exact hy.wpOp hr hi ⟨hl j w,H⟩
  ·have h1 := H.2 j (ready_mono hj hji)
   obtain ⟨hjun,oj,hoj,hall⟩ := mem_ready.1 hj
   have hnot : ∀ e ∈ oj.after,Region.binds .any e = true → e.on ≠ i := fun e he hb heq => by
    have h1 := hall e he hb
    have h0 := (mem_ready.1 hrd).1
    rw [heq] at h1
    rcases Nat.lt_or_ge i listed.size with h' | h'
    ·simp [h'] at h0 h1;rw [h0] at h1;cases h1
    ·simp [Array.getElem?_eq_none h'] at h1
   obtain ⟨hap,hsub⟩ := hfree j oj hoj hji hjun hnot
   have h1' : wpOp P ops (Norm fun _ _ => False) j (fun a' w' => Ri w w' ∧ (L j w w' ∧ wpAnyL P ops L Qn fuel ((listed.setIfInBounds i true).setIfInBounds j true) a' w')) (a.put oi.dst v) w := wpOp_mono (fun _ _ hk => ⟨hsub _ _ hk.1,hk⟩) h1
   have h2 := wpOp_putR (K := fun a' w' => L j w w' ∧ wpAnyL P ops L Qn fuel ((listed.setIfInBounds i true).setIfInBounds j true) a' w') ht hoj hap (fun cs b => hsel i oi cs b hi) (fun cs b => hsel j oj cs b hoj) hy h1'
   have hfree' : ∀ k ok,ops[k]? = some ok → k ≠ i → (listed.setIfInBounds j true).getD k true = false →
     (∀ e ∈ ok.after,Region.binds .any e = true → e.on ≠ i) → oi.apart ops ok = true ∧ ∀ u u',L k u u' → Ri u u' := fun k ok hk hki hun hno => by
    refine hfree k ok hk hki ?_ hno
    by_cases hjk : j = k
    ·subst hjk;exact hjun
    ·rw [getD_set_ne true hjk] at hun;exact hun
   refine wpOp_mono (fun a' w' h3 => ⟨h3.2.2.1,ih (listed.setIfInBounds j true) a' w' hfree' (ready_mono hrd (Ne.symm hji)) h3.1 ?_⟩) h2
   rw [Array.setIfInBounds_comm _ _ hji]
   exact h3.2.2.2
def earlyB (ops : Array Oper) (late : List Nat) (e : Bool) (q : List Nat) : Bool :=
 !e || q.all fun i => late.all fun j => match ops[j]? with | some o => o.after.any fun x => Region.binds .any x && x.on == i | none => true
def trB (ops : Array Oper) (late : List Nat) : Tr → Array Bool → Bool
 | .last e q,listed => quietB ops q listed && earlyB ops late e q && (Region.ready .any ops (listAll q listed)).isEmpty
 | .look e q t,listed => quietB ops q listed && earlyB ops late e q && trB ops late t (listAll q listed)
 | .one e q c t,listed => quietB ops q listed && earlyB ops late e q && Region.ready .any ops (listAll q listed) == [c] && trB ops late t ((listAll q listed).setIfInBounds c true)
 | .two e q c1 t1 c2 t2,listed => quietB ops q listed && earlyB ops late e q && Region.ready .any ops (listAll q listed) == [c1,c2] && trB ops late t1 ((listAll q listed).setIfInBounds c1 true) && trB ops late t2 ((listAll q listed).setIfInBounds c2 true)
 | .three e q c1 t1 c2 t2 c3 t3,listed => quietB ops q listed && earlyB ops late e q && Region.ready .any ops (listAll q listed) == [c1,c2,c3] && trB ops late t1 ((listAll q listed).setIfInBounds c1 true) && trB ops late t2 ((listAll q listed).setIfInBounds c2 true) && trB ops late t3 ((listAll q listed).setIfInBounds c3 true)
def trFuel : Tr → Nat
 | .last _ q => q.length
 | .look _ q t => q.length + trFuel t
 | .one _ q _ t => q.length + (trFuel t + 1)
 | .two _ q _ t1 _ _ => q.length + (trFuel t1 + 1)
 | .three _ q _ t1 _ _ _ _ => q.length + (trFuel t1 + 1)
def trEven : Tr → Bool
 | .last _ _ => true
 | .look _ _ t => trEven t
 | .one _ _ _ t => trEven t
 | .two _ _ _ t1 _ t2 => trEven t1 && trEven t2 && trFuel t1 == trFuel t2
 | .three _ _ _ t1 _ t2 _ t3 => trEven t1 && trEven t2 && trEven t3 && trFuel t1 == trFuel t2 && trFuel t1 == trFuel t3
def wpTr (P : Program) (ops : Array Oper) (late : List Nat) (R R' : World → World → Prop) (Qn : Act → World → Prop) : Tr → Act → World → Prop
 | .last e q,a,w => wpQuiet P ops (Cls (Er e R R') w) (fun a' => Qn a' w) (sel ops q) a
 | .look e q t,a,w => wpQuiet P ops (Cls (Er e R R') w) (fun a' => wpTr P ops late R R' Qn t a' w) (sel ops q) a
 | .one e q c t,a,w => wpQuiet P ops (Cls (Er e R R') w) (fun a' => wpList P ops (Norm fun a'' w'' => Lr late R R' c w w'' ∧ wpTr P ops late R R' Qn t a'' w'') (sel ops [c]) a' w) (sel ops q) a
 | .two e q c1 t1 c2 t2,a,w => wpQuiet P ops (Cls (Er e R R') w) (fun a' => wpList P ops (Norm fun a'' w'' => Lr late R R' c1 w w'' ∧ wpTr P ops late R R' Qn t1 a'' w'') (sel ops [c1]) a' w ∧ wpList P ops (Norm fun a'' w'' => Lr late R R' c2 w w'' ∧ wpTr P ops late R R' Qn t2 a'' w'') (sel ops [c2]) a' w) (sel ops q) a
 | .three e q c1 t1 c2 t2 c3 t3,a,w => wpQuiet P ops (Cls (Er e R R') w) (fun a' => wpList P ops (Norm fun a'' w'' => Lr late R R' c1 w w'' ∧ wpTr P ops late R R' Qn t1 a'' w'') (sel ops [c1]) a' w ∧ wpList P ops (Norm fun a'' w'' => Lr late R R' c2 w w'' ∧ wpTr P ops late R R' Qn t2 a'' w'') (sel ops [c2]) a' w ∧ wpList P ops (Norm fun a'' w'' => Lr late R R' c3 w w'' ∧ wpTr P ops late R R' Qn t3 a'' w'') (sel ops [c3]) a' w) (sel ops q) a
theorem quiet_walkL {L : Nat → World → World → Prop} {Ri : World → World → Prop} {Qn : Act → World → Prop} (hr : ∀ a,Ri a a) (hl : ∀ j a,L j a a) (ht : ∀ a b c,Ri a b → Ri b c → Ri a c) (hs : Region.noSelect ops = true) (n : Nat) (w : World) :
  ∀ (l : List Nat) (listed : Array Bool) (a : Act),quietB ops l listed = true →
  (∀ i ∈ l,∀ j oj,ops[j]? = some oj → (∀ e ∈ oj.after,Region.binds .any e = true → e.on ≠ i) → ∀ u u',L j u u' → Ri u u') →
  wpQuiet P ops (Cls Ri w) (fun a' => wpAnyL P ops L Qn n (listAll l listed) a' w) (sel ops l) a → wpAnyL P ops L Qn (l.length + n) listed a w
 | [],listed,a,_,_,h => by simpa [sel,wpQuiet,listAll] using h
 | k :: l,listed,a,hB,hsub,h => by
  simp only [quietB,Bool.and_eq_true] at hB
  obtain ⟨⟨⟨hrd,hf⟩,hp⟩,hB'⟩ := hB
  cases ho : ops[k]? with
  | none => rw [ho] at hp;cases hp
  | some o =>
   rw [ho] at hp
   have hp' : plain o.op = true := hp
   have hsel : sel ops (k :: l) = o :: sel ops l := sel_cons ho _
   rw [hsel] at h
   have e : (k :: l).length + n = (l.length + n) + 1 := by simp only [List.length_cons];omega
   rw [e]
   have key : ∃ v,SureIn P ops Ri o v a w ∧ wpQuiet P ops (Cls Ri w) (fun a' => wpAnyL P ops L Qn n (listAll l (listed.setIfInBounds k true)) a' w) (sel ops l) (a.put o.dst v) := by
    unfold wpQuiet at h
    by_cases hw : Region.wanted o (yielded ops a.tmps) = true
    ·rw [if_pos hw] at h
     obtain ⟨v,h1,h2⟩ := h
     refine ⟨v,.inl ⟨hw,fun w' hR => ?_⟩,h2⟩
     have h3 := h1 w' (cls_of hR)
     unfold Oper.quietAt at h3
     unfold SureAt
     cases hrun : (execOp a.eval o).run P w' with
     | ok x w1 =>
      obtain ⟨u,rfl⟩ := plain_run hp' hrun
      rw [hrun] at h3
      simp only [Oper.quietUpon] at h3
      rw [h3.1,h3.2]
     | halt x w1 => rw [hrun] at h3;simp only [Oper.quietUpon] at h3
    ·rw [if_neg hw] at h
     exact ⟨undef,.inr ⟨by simpa using hw,rfl⟩,h⟩
   obtain ⟨v,hy,hK⟩ := key
   exact wpAnyL_first hr hl ht ho (Region.noSelect_spec hs) (l.length + n) listed a w (fun j oj hoj hji hun hno => ⟨Region.free_spec ho hf j oj hoj hji hun hno,hsub k (List.mem_cons_self ..) j oj hoj hno⟩) (by simpa using hrd) hy
    (quiet_walkL hr hl ht hs n w l _ _ hB' (fun i hi => hsub i (List.mem_cons_of_mem _ hi)) hK)
theorem early_spec {e : Bool} {q : List Nat} (h : earlyB ops late e q = true) (hsub : ∀ a b,R a b → R' a b) : ∀ i ∈ q,∀ j oj,ops[j]? = some oj → (∀ x ∈ oj.after,Region.binds .any x = true → x.on ≠ i) → ∀ u u',Lr late R R' j u u' → Er e R R' u u' := by
 intro i hi j oj hoj hno u u' hL
 unfold Lr at hL
 unfold Er
 cases e with
 | false =>
  simp only [Bool.false_eq_true,if_false]
  split at hL
  ·exact hL
  ·exact hsub _ _ hL
 | true =>
  simp only [if_true]
  split at hL
  ·rename_i hc
   exfalso
   simp only [earlyB,Bool.not_true,Bool.false_or,List.all_eq_true] at h
   have h1 := h i hi j (by simpa using hc)
   rw [hoj] at h1
   obtain ⟨x,hx,hb⟩ := Array.any_eq_true'.1 h1
   simp only [Bool.and_eq_true,beq_iff_eq] at hb
   exact hno x hx hb.1 hb.2
  ·exact hL
theorem tr_walk {Qn : Act → World → Prop} (hr : ∀ a,R a a) (ht : ∀ a b c,R a b → R b c → R a c) (hr' : ∀ a,R' a a) (ht' : ∀ a b c,R' a b → R' b c → R' a c) (hsub : ∀ a b,R a b → R' a b) (hs : Region.noSelect ops = true) :
  ∀ (t : Tr) (listed : Array Bool) (a : Act) (w : World),trB ops late t listed = true → trEven t = true → wpTr P ops late R R' Qn t a w → wpAnyL P ops (Lr late R R') Qn (trFuel t) listed a w := by
 have er : ∀ e a,Er e R R' a a := fun e a => by cases e <;> simp [Er,hr,hr']
 have et : ∀ e a b c,Er e R R' a b → Er e R R' b c → Er e R R' a c := fun e a b c => by
  cases e
  ·exact ht' a b c
  ·exact ht a b c
 have hl : ∀ j a,Lr late R R' j a a := fun j a => by unfold Lr;split <;> first | exact hr' a | exact hr a
 -- one operation that acts,at the list of them alone
 have act : ∀ (i : Nat) (rs : List Nat) (listed : Array Bool) (a : Act) (w : World) (t : Tr),i ∈ Region.ready .any ops listed →
   (∀ (a : Act) (w : World),wpTr P ops late R R' Qn t a w → wpAnyL P ops (Lr late R R') Qn (trFuel t) (listed.setIfInBounds i true) a w) →
   wpList P ops (Norm fun a'' w'' => Lr late R R' i w w'' ∧ wpTr P ops late R R' Qn t a'' w'') (sel ops [i]) a w →
   wpOp P ops (Norm fun _ _ => False) i (fun a' w' => Lr late R R' i w w' ∧ wpAnyL P ops (Lr late R R') Qn (trFuel t) (listed.setIfInBounds i true) a' w') a w := by
  intro i rs listed a w t hmem hgo ha
  obtain ⟨o,ho,_⟩ := (mem_ready.1 hmem).2
  have hsel : sel ops [i] = [o] := sel_cons ho _
  rw [hsel] at ha
  unfold wpOp
  simp only [ho]
  unfold wpList at ha
  split
  ·rename_i hw
   rw [if_pos hw] at ha
   rcases ha with ha | ⟨_,hlo⟩
   ·refine .inl ?_
    have h1 := Oper.wp_mono (K' := fun a' w' => Lr late R R' i w w' ∧ wpAnyL P ops (Lr late R R') Qn (trFuel t) (listed.setIfInBounds i true) a' w') (fun a'' w'' (hk : wpList P ops (Norm fun a'' w'' => Lr late R R' i w w'' ∧ wpTr P ops late R R' Qn t a'' w'') [] a'' w'') => ⟨hk.1,hgo a'' w'' hk.2⟩) ha
    exact upon_turn (fun _ _ _ hh => hh.elim) (fun ⟨_,_,hh⟩ => hh.elim) h1
   ·exact (norm_lets hlo).elim
  ·rename_i hw
   rw [if_neg hw] at ha
   have hk : Lr late R R' i w w ∧ _ := ha
   exact ⟨hk.1,hgo _ _ hk.2⟩
 intro t
 induction t with
 | last e q =>
  intro listed a w hB _ h
  simp only [trB,Bool.and_eq_true] at hB
  have := quiet_walkL (Qn := Qn) (er e) hl (et e) hs 0 w q listed a hB.1.1 (early_spec hB.1.2 hsub) (wpQuiet_mono (fun a' ha' => ⟨by simpa using hB.2,ha'⟩) _ _ h)
  simpa [trFuel] using this
 | look e q t ih =>
  intro listed a w hB hE h
  simp only [trB,Bool.and_eq_true] at hB
  exact quiet_walkL (Qn := Qn) (er e) hl (et e) hs _ w q listed a hB.1.1 (early_spec hB.1.2 hsub) (wpQuiet_mono (fun a' ha' => ih _ a' w hB.2 hE ha') _ _ h)
 | one e q c t ih =>
  intro listed a w hB hE h
  simp only [trB,Bool.and_eq_true,beq_iff_eq] at hB
  obtain ⟨⟨⟨hq,he⟩,hc⟩,hrest⟩ := hB
  refine quiet_walkL (Qn := Qn) (er e) hl (et e) hs _ w q listed a hq (early_spec he hsub) (wpQuiet_mono (fun a' ha' => ?_) _ _ h)
  refine ⟨(fun h0 => by rw [hc] at h0;cases h0),fun i hi => ?_⟩
  have hi0 := hi
  rw [hc] at hi
  have hic : i = c := by simpa using hi
  subst hic
  exact act i [] _ a' w t hi0 (fun a'' w'' hk => ih _ a'' w'' hrest hE hk) ha'
 | two e q c1 t1 c2 t2 ih1 ih2 =>
  intro listed a w hB hE h
  simp only [trB,Bool.and_eq_true,beq_iff_eq] at hB
  obtain ⟨⟨⟨⟨hq,he⟩,hc⟩,hrest1⟩,hrest2⟩ := hB
  simp only [trEven,Bool.and_eq_true,beq_iff_eq] at hE
  obtain ⟨⟨hE1,hE2⟩,hEE⟩ := hE
  refine quiet_walkL (Qn := Qn) (er e) hl (et e) hs _ w q listed a hq (early_spec he hsub) (wpQuiet_mono (fun a' ha' => ?_) _ _ h)
  refine ⟨(fun h0 => by rw [hc] at h0;cases h0),fun i hi => ?_⟩
  have hi0 := hi
  rw [hc] at hi
  have hic : i = c1 ∨ i = c2 := by simpa using hi
  rcases hic with rfl | rfl
  ·exact act i [] _ a' w t1 hi0 (fun a'' w'' hk => ih1 _ a'' w'' hrest1 hE1 hk) ha'.1
  ·rw [hEE]
   exact act i [] _ a' w t2 hi0 (fun a'' w'' hk => ih2 _ a'' w'' hrest2 hE2 hk) ha'.2
 | three e q c1 t1 c2 t2 c3 t3 ih1 ih2 ih3 =>
  intro listed a w hB hE h
  simp only [trB,Bool.and_eq_true,beq_iff_eq] at hB
  obtain ⟨⟨⟨⟨⟨hq,he⟩,hc⟩,hrest1⟩,hrest2⟩,hrest3⟩ := hB
  simp only [trEven,Bool.and_eq_true,beq_iff_eq] at hE
  obtain ⟨⟨⟨⟨hE1,hE2⟩,hE3⟩,hEE⟩,hEE3⟩ := hE
  refine quiet_walkL (Qn := Qn) (er e) hl (et e) hs _ w q listed a hq (early_spec he hsub) (wpQuiet_mono (fun a' ha' => ?_) _ _ h)
  refine ⟨(fun h0 => by rw [hc] at h0;cases h0),fun i hi => ?_⟩
  have hi0 := hi
  rw [hc] at hi
  have hic : i = c1 ∨ i = c2 ∨ i = c3 := by simpa using hi
  rcases hic with rfl | rfl | rfl
  ·exact act i [] _ a' w t1 hi0 (fun a'' w'' hk => ih1 _ a'' w'' hrest1 hE1 hk) ha'.1
  ·rw [hEE]
   exact act i [] _ a' w t2 hi0 (fun a'' w'' hk => ih2 _ a'' w'' hrest2 hE2 hk) ha'.2.1
  ·rw [hEE3]
   exact act i [] _ a' w t3 hi0 (fun a'' w'' hk => ih3 _ a'' w'' hrest3 hE3 hk) ha'.2.2
end
theorem wp_region_tree {P : Program} {id : Nat} {Q : Exit → Act → World → Prop} {a : Act} {w : World} {l : List Oper} (R R' : World → World → Prop) (hr : ∀ a,R a a) (ht : ∀ a b c,R a b → R b c → R a c) (hr' : ∀ a,R' a a) (ht' : ∀ a b c,R' a b → R' b c → R' a c) (hsub : ∀ a b,R a b → R' a b)
  (late : List Nat) (t : Tr) (hm : P.follows .mixedOrders = true) (hB : (Region.noSelect l.toArray && trB l.toArray late t (Array.replicate l.length false) && trEven t && trFuel t == l.length) = true)
  (h : wpTr P l.toArray late R R' (fun a' w' => Q .normal a' w') t a w.drew) : (Code.region id l.toArray true).wp P Q a w := by
 simp only [Bool.and_eq_true,beq_iff_eq] at hB
 obtain ⟨⟨⟨hs,hb⟩,he⟩,hf⟩ := hB
 refine wp_region_any hm (wpAny_of_L (L := Lr late R R') _ _ _ _ ?_)
 have := tr_walk (P := P) (Qn := fun a' w' => Q .normal a' w') hr ht hr' ht' hsub hs t _ a _ hb he h
 rw [hf] at this
 simpa using this
section
variable {P : Program} {ops : Array Oper} {R R' : World → World → Prop} {late : List Nat} {Qn : Act → World → Prop} {a : Act} {w : World}
theorem Lr_early {c : Nat} {w w' : World} (hc : late.contains c = false) (h : R w w') : Lr late R R' c w w' := by unfold Lr;rw [hc];exact h
theorem Lr_late {c : Nat} {w w' : World} (hc : late.contains c = true) (h : R' w w') : Lr late R R' c w w' := by unfold Lr;rw [hc];exact h
theorem tr_last {e : Bool} {q : List Nat} (h : ∀ K : Act → Prop,(∀ a',Qn a' w → K a') → wpQuiet P ops (fun w' => ∃ p : Up (Er e R R') w,w' = p.u) K (sel ops q) a) : wpTr P ops late R R' Qn (.last e q) a w := h _ fun _ h => h
theorem tr_one {e : Bool} {q : List Nat} {c : Nat} {t : Tr}
  (h : ∀ K : Act → World → Prop,(∀ a'' w'',Lr late R R' c w w'' → wpTr P ops late R R' Qn t a'' w'' → K a'' w'') → wpQuiet P ops (fun w' => ∃ p : Up (Er e R R') w,w' = p.u) (fun a' => wpList P ops (Norm K) (sel ops [c]) a' w) (sel ops q) a) : wpTr P ops late R R' Qn (.one e q c t) a w :=
 h _ fun _ _ h1 h2 => ⟨h1,h2⟩
theorem tr_two {e : Bool} {q : List Nat} {c1 c2 : Nat} {t1 t2 : Tr}
  (h : ∀ K1 : Act → World → Prop,(∀ a'' w'',Lr late R R' c1 w w'' → wpTr P ops late R R' Qn t1 a'' w'' → K1 a'' w'') → ∀ K2 : Act → World → Prop,(∀ a'' w'',Lr late R R' c2 w w'' → wpTr P ops late R R' Qn t2 a'' w'' → K2 a'' w'') →
    wpQuiet P ops (fun w' => ∃ p : Up (Er e R R') w,w' = p.u) (fun a' => wpList P ops (Norm K1) (sel ops [c1]) a' w ∧ wpList P ops (Norm K2) (sel ops [c2]) a' w) (sel ops q) a) : wpTr P ops late R R' Qn (.two e q c1 t1 c2 t2) a w :=
 h _ (fun _ _ h1 h2 => ⟨h1,h2⟩) _ (fun _ _ h1 h2 => ⟨h1,h2⟩)
theorem tr_threeE {q : List Nat} {c1 c2 c3 : Nat} {t1 t2 t3 : Tr}
  (h : ∀ K1 : Act → World → Prop,(∀ a'' w'',Lr late R R' c1 w w'' → wpTr P ops late R R' Qn t1 a'' w'' → K1 a'' w'') → ∀ K2 : Act → World → Prop,(∀ a'' w'',Lr late R R' c2 w w'' → wpTr P ops late R R' Qn t2 a'' w'' → K2 a'' w'') → ∀ K3 : Act → World → Prop,(∀ a'' w'',Lr late R R' c3 w w'' → wpTr P ops late R R' Qn t3 a'' w'' → K3 a'' w'') → 
    wpQuiet P ops (fun w' => ∃ p : Up R w,w' = p.u) (fun a' => wpList P ops (Norm K1) (sel ops [c1]) a' w ∧ wpList P ops (Norm K2) (sel ops [c2]) a' w ∧ wpList P ops (Norm K3) (sel ops [c3]) a' w) (sel ops q) a) : wpTr P ops late R R' Qn (.three true q c1 t1 c2 t2 c3 t3) a w :=
 h _ (fun _ _ h1 h2 => ⟨h1,h2⟩) _ (fun _ _ h1 h2 => ⟨h1,h2⟩) _ (fun _ _ h1 h2 => ⟨h1,h2⟩)
theorem tr_oneE {q : List Nat} {c : Nat} {t : Tr}
  (h : ∀ K : Act → World → Prop,(∀ a'' w'',Lr late R R' c w w'' → wpTr P ops late R R' Qn t a'' w'' → K a'' w'') → wpQuiet P ops (fun w' => ∃ p : Up R w,w' = p.u) (fun a' => wpList P ops (Norm K) (sel ops [c]) a' w) (sel ops q) a) : wpTr P ops late R R' Qn (.one true q c t) a w :=
 tr_one (e := true) h
theorem tr_oneL {q : List Nat} {c : Nat} {t : Tr}
  (h : ∀ K : Act → World → Prop,(∀ a'' w'',Lr late R R' c w w'' → wpTr P ops late R R' Qn t a'' w'' → K a'' w'') → wpQuiet P ops (fun w' => ∃ p : Up R' w,w' = p.u) (fun a' => wpList P ops (Norm K) (sel ops [c]) a' w) (sel ops q) a) : wpTr P ops late R R' Qn (.one false q c t) a w :=
 tr_one (e := false) h
theorem tr_lastL {q : List Nat} (h : ∀ K : Act → Prop,(∀ a',Qn a' w → K a') → wpQuiet P ops (fun w' => ∃ p : Up R' w,w' = p.u) K (sel ops q) a) : wpTr P ops late R R' Qn (.last false q) a w := tr_last (e := false) h
theorem tr_twoE {q : List Nat} {c1 c2 : Nat} {t1 t2 : Tr}
  (h : ∀ K1 : Act → World → Prop,(∀ a'' w'',Lr late R R' c1 w w'' → wpTr P ops late R R' Qn t1 a'' w'' → K1 a'' w'') → ∀ K2 : Act → World → Prop,(∀ a'' w'',Lr late R R' c2 w w'' → wpTr P ops late R R' Qn t2 a'' w'' → K2 a'' w'') →
    wpQuiet P ops (fun w' => ∃ p : Up R w,w' = p.u) (fun a' => wpList P ops (Norm K1) (sel ops [c1]) a' w ∧ wpList P ops (Norm K2) (sel ops [c2]) a' w) (sel ops q) a) : wpTr P ops late R R' Qn (.two true q c1 t1 c2 t2) a w :=
 tr_two (e := true) h
end
end Trees3
end Go.Proofs.YtbnkpnllgoghnaaGreat
