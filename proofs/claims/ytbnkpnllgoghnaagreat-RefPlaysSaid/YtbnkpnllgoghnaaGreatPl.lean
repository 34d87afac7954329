import Derived.Test.YtbnkpnllgoghnaaGreatPk
set_option linter.unusedVariables false
namespace Go.Proofs.YtbnkpnllgoghnaaGreat
open Go.Lib (hid)
namespace MdCopy
open Go.ChangeShapes Go.WideShapes Go.ChangeAt Go.RowKit
open Mem Blk Cells Orow GrC MdM MdC MdR MdN Stages Trees3
open MdK (os_gr os_keep inforows_str)
theorem copy_or {P : Program} {w : World} {b n : Nat} {f : Nat → Value} (T e : TypeId) (z : Value) (bytes : Nat) (hT : P.underlying T = some (.slice e))
  (hinfo : (P.info? e).map (fun i => (i.zero,i.size,i.bytes)) = some (some z,1,bytes)) (hzs : z.cells.size = 1) (hb : bytes ≤ 1000) (hbk : Blk w b e []) {sb so : Nat} (hc : ∀ j,j < n → w.cell? ⟨sb,so + j,none⟩ = some (f j)) (h1 : ∀ j,j < n → (f j).oneCell' = true) (c : Nat) (hn0 : 0 < n) (hn : n ≤ 100000) :
  ∃ g cap w',(∀ ty,(Builtin.append_ #[T,T] ty #[.slice (some ⟨b,0,none⟩) 0 0,.slice (some ⟨sb,so,none⟩) n c]).run P w = .ok (.slice (some ⟨g,0,none⟩) n cap) w') ∧ OR w' g e 1 cap n f ∧ Kept (fun k => k = b) w w' ∧ (g = b ∨ g = w.heap.size) := by
 obtain ⟨i,hi,hz,hs,hby⟩ := info_parts hinfo
 have hown : w.ownsRow 0 e 1 (.slice (some ⟨b,0,none⟩) 0 0) 0 [] := ⟨rfl,.inr ⟨_,0,#[],rfl,Nat.zero_le _,hbk,Nat.le_refl _,Nat.zero_le _,rfl,rfl⟩⟩
 obtain ⟨g,cap,w',hr,h2,h3,h4,_⟩ := Go.run_append_lies (P := P) (w := w) T 0 0 e i z 1 bytes hT hi hz hs hby hzs (by omega) _ 0 [] hown ⟨sb,so,none⟩ n c ((List.range n).map f) (by simp)
  (fun j u hj => by
    have hjn : j < n := by
     have := (List.getElem?_eq_some_iff.1 hj).1
     simpa using this
    have e : (⟨sb,so,none⟩ : Addr).add j = ⟨sb,so + j,none⟩ := by unfold Addr.add;split <;> simp_all
    rw [e,hc j hjn,← hj]
    simp [hjn])
  (fun u hu => by
    obtain ⟨j,hj,rfl⟩ := List.mem_map.1 hu
    exact h1 j (List.mem_range.1 hj)) hn0 (by unfold maxLen;omega) (by
     have : (0 + n) * bytes ≤ 100000 * 1000 := Nat.mul_le_mul (by omega) hb
     omega) (Nat.zero_le _) _ rfl
 rw [Nat.zero_add] at hr h2
 refine ⟨g,cap,w',fun ty => hr,(OR.of_own h2 fun i hi => ?_).1,(Kept.refl _ w).grown h3 fun k hk _ => ?_,?_⟩
 ·have hi' : i < n := by omega
  simp [hi']
 ·simp [Value.ownBlock] at hk
  exact hk.symm
 ·rcases h4 with h4 | h4
  ·simp [Value.ownBlock] at h4
   exact .inl h4.symm
  ·exact .inr h4
def Part (u : World) (t : TypeId) (n : Nat) (f : Nat → Value) : Nat → Nat → Nat → Prop
 | 0,_,_ => True
 | 1,x,_ => Blk u x t []
 | _,x,c => OR u x t 1 c n f
section
variable {u u' wd : World} {t : TypeId} {n s x c : Nat} {f : Nat → Value} {F : Nat → Prop}
theorem Part.kept (h : Part u t n f s x c) (hk : Kept F u u') (hF : 0 < s → ¬ F x) : Part u' t n f s x c := by
 match s,h with
 | 0,_ => trivial
 | 1,h => exact Blk.kept (cs := []) h hk (hF (by omega))
 | s + 2,h => exact OR.kept h hk (hF (by omega))
structure Cs (wd u : World) (b0 n : Nat) (T : Nat → Bool) (Bs : Nat → List Int) (sT sB sD x cx y cy d : Nat) : Prop where
 k : Kept (b0 ≤ ·) wd u
 z : b0 ≤ u.heap.size
 T : Part u 4 n (tcell T) sT x cx
 B : Part u 9 n (bcell Bs) sB y cy
 D : 0 < sD → Blk u d 50 [.slice none 0 0,.slice none 0 0,.slice none 0 0]
 lx : 0 < sT → b0 ≤ x ∧ x < u.heap.size
 ly : 0 < sB → b0 ≤ y ∧ y < u.heap.size
 ld : 0 < sD → b0 ≤ d ∧ d < u.heap.size
 xy : 0 < sT → 0 < sB → x ≠ y
 xd : 0 < sT → 0 < sD → x ≠ d
 yd : 0 < sB → 0 < sD → y ≠ d
variable {b0 sT sB sD cx y cy d : Nat} {T : Nat → Bool} {Bs : Nat → List Int}
theorem Cs.newT (h : Cs wd u b0 n T Bs 0 sB sD x cx y cy d) : Cs wd (u.alloc (.cells #[] 4)) b0 n T Bs 1 sB sD u.heap.size 0 y cy d := by
 have hg : Grow u (u.alloc (.cells #[] 4)) := (Kept.refl _ _).alloc _
 have hz : (u.alloc (.cells #[] 4)).heap.size = u.heap.size + 1 := by simp
 have := h.z
 exact ⟨h.k.alloc _,by omega,Blk.new u _ [],h.B.kept hg fun _ x => x,fun e => (h.D e).grow hg,fun _ => by omega,fun e => by have := h.ly e;omega,fun e => by have := h.ld e;omega,fun _ e => by have := h.ly e;omega,fun _ e => by have := h.ld e;omega,h.yd⟩
theorem Cs.newB (h : Cs wd u b0 n T Bs sT 0 sD x cx y cy d) : Cs wd (u.alloc (.cells #[] 9)) b0 n T Bs sT 1 sD x cx u.heap.size 0 d := by
 have hg : Grow u (u.alloc (.cells #[] 9)) := (Kept.refl _ _).alloc _
 have hz : (u.alloc (.cells #[] 9)).heap.size = u.heap.size + 1 := by simp
 have := h.z
 exact ⟨h.k.alloc _,by omega,h.T.kept hg fun _ x => x,Blk.new u _ [],fun e => (h.D e).grow hg,fun e => by have := h.lx e;omega,fun _ => by omega,fun e => by have := h.ld e;omega,fun e _ => by have := h.lx e;omega,h.xd,fun _ e => by have := h.ld e;omega⟩
theorem Cs.newD (h : Cs wd u b0 n T Bs sT sB 0 x cx y cy d) : Cs wd (u.alloc (.cells #[.slice none 0 0,.slice none 0 0,.slice none 0 0] 50)) b0 n T Bs sT sB 1 x cx y cy u.heap.size := by
 have hg : Grow u (u.alloc (.cells #[.slice none 0 0,.slice none 0 0,.slice none 0 0] 50)) := (Kept.refl _ _).alloc _
 have hz : (u.alloc (.cells #[.slice none 0 0,.slice none 0 0,.slice none 0 0] 50)).heap.size = u.heap.size + 1 := by simp
 have := h.z
 exact ⟨h.k.alloc _,by omega,h.T.kept hg fun _ x => x,h.B.kept hg fun _ x => x,fun _ => Blk.new u _ _,fun e => by have := h.lx e;omega,fun e => by have := h.ly e;omega,fun _ => by omega,h.xy,fun e _ => by have := h.lx e;omega,fun e _ => by have := h.ly e;omega⟩
theorem Cs.appT (h : Cs wd u b0 n T Bs 1 sB sD x cx y cy d) {gT : Nat} (hg : gT < b0) (hs : ∀ j,j < n → wd.cell? ⟨gT,0 + j,none⟩ = some (tcell T j)) (cT : Nat) (h0 : 0 < n) (h48 : n ≤ 48) :
  ∃ g cap u',(∀ ty,(Builtin.append_ #[46,46] ty #[.slice (some ⟨x,0,none⟩) 0 0,.slice (some ⟨gT,0,none⟩) n cT]).run Tryz.prog u = .ok (.slice (some ⟨g,0,none⟩) n cap) u') ∧ Cs wd u' b0 n T Bs 2 sB sD g cap y cy d ∧ Kept (b0 ≤ ·) u u' := by
 have hlx := h.lx (by omega)
 obtain ⟨g,cap,u',hr,ho,hk,hgg⟩ := copy_or (P := Tryz.prog) 46 4 _ 1 Tryz.underlying46 PmK.infoclone_bools rfl (by omega) (show Blk u x 4 [] from h.T) (fun j hj => h.k.cellN (hs j hj) (fun e => by have e : b0 ≤ gT := e;omega)) (fun _ _ => rfl) cT h0 (by omega)
 have hkb : Kept (b0 ≤ ·) u u' := hk.mono fun k _ e => by have e : k = x := e;show b0 ≤ k;omega
 have hz := hkb.size
 have hlt := ho.lt
 have hz0 := h.z
 refine ⟨g,cap,u',hr,⟨h.k.trans hkb,by omega,ho,h.B.kept hk fun e e2 => h.xy (by omega) e (by have e2 : y = x := e2;omega),fun e => (h.D e).kept hk fun e2 => h.xd (by omega) e (by have e2 : d = x := e2;omega),fun _ => ?_,fun e => by have := h.ly e;omega,fun e => by have := h.ld e;omega,fun _ e => ?_,fun _ e => ?_,h.yd⟩,hkb⟩
 ·omega
 ·have := h.xy (by omega) e;have := h.ly e;omega
 ·have := h.xd (by omega) e;have := h.ld e;omega
theorem Cs.appB (h : Cs wd u b0 n T Bs sT 1 sD x cx y cy d) {gT : Nat} (hg : gT < b0) (hs : ∀ j,j < n → wd.cell? ⟨gT,0 + j,none⟩ = some (bcell Bs j)) (cT : Nat) (h0 : 0 < n) (h48 : n ≤ 48) :
  ∃ g cap u',(∀ ty,(Builtin.append_ #[47,47] ty #[.slice (some ⟨y,0,none⟩) 0 0,.slice (some ⟨gT,0,none⟩) n cT]).run Tryz.prog u = .ok (.slice (some ⟨g,0,none⟩) n cap) u') ∧ Cs wd u' b0 n T Bs sT 2 sD x cx g cap d ∧ Kept (b0 ≤ ·) u u' := by
 have hlx := h.ly (by omega)
 obtain ⟨g,cap,u',hr,ho,hk,hgg⟩ := copy_or (P := Tryz.prog) 47 9 _ 16 Tryz.underlying47 inforows_str rfl (by omega) (show Blk u y 9 [] from h.B) (fun j hj => h.k.cellN (hs j hj) (fun e => by have e : b0 ≤ gT := e;omega)) (fun _ _ => rfl) cT h0 (by omega)
 have hkb : Kept (b0 ≤ ·) u u' := hk.mono fun k _ e => by have e : k = y := e;show b0 ≤ k;omega
 have hz := hkb.size
 have hlt := ho.lt
 have hz0 := h.z
 refine ⟨g,cap,u',hr,⟨h.k.trans hkb,by omega,h.T.kept hk fun e e2 => h.xy e (by omega) (by have e2 : x = y := e2;omega),ho,fun e => (h.D e).kept hk fun e2 => h.yd (by omega) e (by have e2 : d = y := e2;omega),fun e => by have := h.lx e;omega,fun _ => ?_,fun e => by have := h.ld e;omega,fun e _ => ?_,h.xd,fun _ e => ?_⟩,hkb⟩
 ·omega
 ·have := h.xy e (by omega);have := h.lx e;omega
 ·have := h.yd (by omega) e;have := h.ld e;omega
structure Mk3 (w : World) (b d m2 n k : Nat) (T : Nat → Bool) (Bs : Nat → List Int) (H : Nat → Nat → Int) (vT vB vH : Value) (q cp : Nat → Nat) : Prop where
 bx : Blk w d 50 [vT,vB,vH]
 bd : b ≤ d ∧ d < m2
 T : OS w (fun x => b ≤ x ∧ x < m2 ∧ x ≠ d) vT 4 1 n (tcell T)
 B : OS w (fun x => b ≤ x ∧ x < m2 ∧ x ≠ d) vB 9 1 n (bcell Bs)
 dis : ∀ x,vT.ownBlock = some x → vB.ownBlock ≠ some x
 H : Gr w (fun x => m2 ≤ x) vH k q cp H
variable {w w' : World} {m2 k : Nat} {H : Nat → Nat → Int} {vT vB vH : Value} {q cp : Nat → Nat}
theorem Mk3.grow (h : Mk3 w b0 d m2 n k T Bs H vT vB vH q cp) (hk : Grow w w') : Mk3 w' b0 d m2 n k T Bs H vT vB vH q cp := ⟨h.bx.grow hk,h.bd,os_gr h.T hk,os_gr h.B hk,h.dis,h.H.kept hk fun _ _ x => x⟩
theorem Cs.fin (h : Cs wd u b0 n T Bs 2 2 1 x cx y cy d) : Mk3 (((u.setCell ⟨d,0,none⟩ (.slice (some ⟨x,0,none⟩) n cx)).setCell ⟨d,1,none⟩ (.slice (some ⟨y,0,none⟩) n cy)).setCell ⟨d,2,none⟩ (.slice none 0 0)) b0 d u.heap.size n 0 T Bs H (.slice (some ⟨x,0,none⟩) n cx) (.slice (some ⟨y,0,none⟩) n cy) (.slice none 0 0) id id ∧
  Kept (b0 ≤ ·) wd (((u.setCell ⟨d,0,none⟩ (.slice (some ⟨x,0,none⟩) n cx)).setCell ⟨d,1,none⟩ (.slice (some ⟨y,0,none⟩) n cy)).setCell ⟨d,2,none⟩ (.slice none 0 0)) := by
 have hd := h.D (by omega)
 have ks : Kept (fun k => k = d) u (((u.setCell ⟨d,0,none⟩ (.slice (some ⟨x,0,none⟩) n cx)).setCell ⟨d,1,none⟩ (.slice (some ⟨y,0,none⟩) n cy)).setCell ⟨d,2,none⟩ (.slice none 0 0)) := ((kept_set u d 0 _).trans (kept_set _ d 1 _)).trans (kept_set _ d 2 _)
 have l1 := h.lx (by omega)
 have l2 := h.ly (by omega)
 have l3 := h.ld (by omega)
 have n1 := h.xy (by omega) (by omega)
 have n2 := h.xd (by omega) (by omega)
 have n3 := h.yd (by omega) (by omega)
 have hT : OR u x 4 1 cx n (tcell T) := h.T
 have hB : OR u y 9 1 cy n (bcell Bs) := h.B
 refine ⟨⟨((hd.set 0 _).set 1 _).set 2 _,⟨l3.1,l3.2⟩,.inr ⟨x,cx,rfl,hT.kept ks n2,l1.1,l1.2,n2⟩,.inr ⟨y,cy,rfl,hB.kept ks n3,l2.1,l2.2,n3⟩,fun z e e' => ?_,gr_nil _ _ _ _ _⟩,h.k.trans (ks.mono fun k _ e => by have e : k = d := e;show b0 ≤ k;omega)⟩
 injection e with e
 injection e' with e'
 exact n1 (e.trans e'.symm)
theorem Mk3.push {r c g cap : Nat} (h : Mk3 w b0 d m2 n k T Bs H vT vB vH q cp) (hm : m2 ≤ w.heap.size) (hr : OR w r 3 1 c 6 (hcell (H k))) (hrm : m2 ≤ r) (hnr : ∀ i,i < k → q i ≠ r) (hvr : vH.ownBlock ≠ some r)
  (ho : OR w' g 33 1 cap (k + 1) (joined (scell q cp) (rcell r c) (k * 1))) (hk : Kept (fun x => vH.ownBlock = some x) w w') (hg : vH.ownBlock = some g ∨ g = w.heap.size) :
  Mk3 (w'.setCell ⟨d,2,none⟩ (.slice (some ⟨g,0,none⟩) (k + 1) cap)) b0 d m2 n (k + 1) T Bs H vT vB (.slice (some ⟨g,0,none⟩) (k + 1) cap) (up q k r) (up cp k c) ∧
  Kept (b0 ≤ ·) w (w'.setCell ⟨d,2,none⟩ (.slice (some ⟨g,0,none⟩) (k + 1) cap)) ∧ Blk w' d 50 [vT,vB,vH] := by
 have hd := h.bd
 have oH : ∀ x,vH.ownBlock = some x → m2 ≤ x ∧ x < w.heap.size := fun x e => os_in h.H.out e
 have hgr := h.H.push hr hrm hnr hvr ho hk hg (fun x hx => by show m2 ≤ x;omega)
 have hb : Blk w' d 50 [vT,vB,vH] := h.bx.kept hk (fun e => by have := (oH _ e).1;omega)
 have ks : Kept (fun x => x = d) w' (w'.setCell ⟨d,2,none⟩ (.slice (some ⟨g,0,none⟩) (k + 1) cap)) := kept_set w' d 2 _
 refine ⟨⟨hb.set 2 _,h.bd,os_keep (os_keep h.T hk fun x e e' => ?_) ks fun x e e' => ?_,os_keep (os_keep h.B hk fun x e e' => ?_) ks fun x e e' => ?_,h.dis,hgr.kept ks fun x hx e => ?_⟩,?_,hb⟩
 ·have := (oH x e').1;have := (os_in h.T e).1;omega
 ·have e' : x = d := e';have := (os_in h.T e).1;omega
 ·have := (oH x e').1;have := (os_in h.B e).1;omega
 ·have e' : x = d := e';have := (os_in h.B e).1;omega
 ·have e : x = d := e;have hx : m2 ≤ x := hx;omega
 ·exact (hk.mono fun x _ e => by have := (oH x e).1;show b0 ≤ x;omega).trans (ks.mono fun x _ (e : x = d) => by show b0 ≤ x;omega)
theorem Mk3.at (h : Mk3 w b0 d m2 n k T Bs H vT vB vH q cp) (hg : MdM.Good ⟨n,k,T,Bs,H⟩) : SAt w (b0 ≤ ·) (.agg #[vT,vB,vH]) ⟨n,k,T,Bs,H⟩ := by
 have hn := hg.n
 have hN := hg.N
 have hn : 0 < n := hn.1
 have hN : 0 < k := hN.1
 have hbd := h.bd
 obtain ⟨gT,cT,rfl,oT,iT⟩ := h.T.form hn
 obtain ⟨gB,cB,rfl,oB,iB⟩ := h.B.form hn
 obtain ⟨gH,cH,rfl,oH,iH⟩ := h.H.out.form hN
 have iH : m2 ≤ gH := iH
 refine ⟨hg,gT,cT,gB,cB,gH,cH,q,cp,rfl,⟨oT,oB,oH,h.H.row,h.H.ne,⟨fun e => h.dis gT rfl (by rw [e];rfl),?_,?_⟩,fun i hi => ⟨?_,?_,fun e => h.H.off i hi (by rw [e];rfl)⟩,⟨iT.1,iB.1,?_⟩,fun i hi => ?_⟩⟩
 ·have := iT.2;omega
 ·have := iB.2;omega
 ·have := iT.2;have hq : m2 ≤ q i := h.H.inG i hi;omega
 ·have := iB.2;have hq : m2 ≤ q i := h.H.inG i hi;omega
 ·show b0 ≤ gH;omega
 ·have hq : m2 ≤ q i := h.H.inG i hi;show b0 ≤ q i;omega
end
abbrev W2 (w : World) (x y z : Value) : World := (w.alloc (.cells #[x,y,z] 50)).alloc (.cells #[.slice none 0 0,.slice none 0 0,.slice none 0 0] 50)
theorem two_copy (w : World) (x y z : Value) : Grow w ((w.alloc (.cells #[x,y,z] 50)).alloc (.cells #[.slice none 0 0,.slice none 0 0,.slice none 0 0] 50)) ∧ Blk ((w.alloc (.cells #[x,y,z] 50)).alloc (.cells #[.slice none 0 0,.slice none 0 0,.slice none 0 0] 50)) w.heap.size 50 [x,y,z] ∧ Blk ((w.alloc (.cells #[x,y,z] 50)).alloc (.cells #[.slice none 0 0,.slice none 0 0,.slice none 0 0] 50)) (w.heap.size + 1) 50 [.slice none 0 0,.slice none 0 0,.slice none 0 0] ∧ ((w.alloc (.cells #[x,y,z] 50)).alloc (.cells #[.slice none 0 0,.slice none 0 0,.slice none 0 0] 50)).heap.size = w.heap.size + 1 + 1 := by
 have g1 : Grow w (w.alloc (.cells #[x,y,z] 50)) := (Kept.refl _ _).alloc _
 have b1 := Blk.new w 50 [x,y,z]
 have z1 : (w.alloc (.cells #[x,y,z] 50)).heap.size = w.heap.size + 1 := by simp
 generalize w.alloc (.cells #[x,y,z] 50) = u at *
 have g2 : Grow u (u.alloc (.cells #[.slice none 0 0,.slice none 0 0,.slice none 0 0] 50)) := (Kept.refl _ _).alloc _
 have b2 := Blk.new u 50 [.slice none 0 0,.slice none 0 0,.slice none 0 0]
 have z2 : (u.alloc (.cells #[.slice none 0 0,.slice none 0 0,.slice none 0 0] 50)).heap.size = u.heap.size + 1 := by simp
 rw [z1] at b2 z2
 exact ⟨g1.trans g2,b1.grow g2,b2,z2⟩
def C0 (wd : World) (b0 d : Nat) (a : Md) (wx : World) : Prop := ∃ m2 vT vB,Mk3 wx b0 d m2 a.n 0 a.T a.B a.H vT vB (.slice none 0 0) id id ∧ Kept (b0 ≤ ·) wd wx ∧ m2 ≤ wx.heap.size
def C1 (wd : World) (b0 d : Nat) (a : Md) (k : Nat) (wx : World) : Prop := ∃ m2 vT vB vH q cp,Mk3 wx b0 d m2 a.n k a.T a.B a.H vT vB vH q cp ∧ Kept (b0 ≤ ·) wd wx ∧ m2 ≤ wx.heap.size
def CopyP (a : Md) (w : World) (e : Ending) (w' : World) : Prop := ∃ v,e = .returned v ∧ SAt w' (w.heap.size ≤ ·) v a ∧ Grow w w'
section
variable {w : World} {G : Nat → Prop} {v : Value} {a : Md}
set_option maxRecDepth 100000 in
set_option maxHeartbeats 8000000 in
theorem copy_any (h : SAt w G v a) : Calls Tryz.prog 52 #[v] w (CopyP a w) := by
 have hgd := h.good
 obtain ⟨gT,cT,gB,cB,gH,cH,q0,p0,rfl,hm0⟩ := h.mem
 unfold sval
 obtain ⟨hg,hs,hb,hz⟩ := two_copy w (.slice (some ⟨gT,0,none⟩) a.n cT) (.slice (some ⟨gB,0,none⟩) a.n cB) (.slice (some ⟨gH,0,none⟩) a.N cH)
 have hm := hm0.mono (X := fun k => k < w.heap.size) fun k hk _ => hk
 have HM := hid (hm.kept hg fun _ _ x => x)
 have HG0 := hid hg
 have HS0 := hid hs
 have HB0 := hid hb
 have HZ0 := hid hz
 have HGD := hid hgd
 have hnz : (a.N : Int) ≤ 6 := by have := hgd.N;omega
 obtain ⟨P,hP⟩ : ∃ P,P = CopyP a w := ⟨_,rfl⟩
 have HPP := hid hP
 rw [← hP]
 clear hg hs hb hz hm hm0 h hP hgd
 go_enter Tryz.func52,Tryz.ntmps52
 go_upto_region 1 with (fail)
 generalize (w.alloc (.cells #[.slice (some ⟨gT,0,none⟩) a.n cT,.slice (some ⟨gB,0,none⟩) a.n cB,.slice (some ⟨gH,0,none⟩) a.N cH] 50)).alloc (.cells #[.slice none 0 0,.slice none 0 0,.slice none 0 0] 50) = w0 at HG0 HS0 HB0 HZ0 HM ⊢
 obtain ⟨B,hB⟩ : ∃ B,B = w.heap.size + 1 := ⟨_,rfl⟩
 rw [← hB] at HB0 HZ0 ⊢
 obtain ⟨C,hC⟩ : ∃ C,C = w.heap.size := ⟨_,rfl⟩
 rw [← hC] at HS0 HM hB ⊢
 have HBD : Hid (C = w.heap.size ∧ B = C + 1) := ⟨hC,hB⟩
 obtain ⟨b0,hb0⟩ : ∃ b0,b0 = B + 1 := ⟨_,rfl⟩
 rw [← hb0] at HZ0
 have HB00 := hid hb0
 clear hB hC hb0
 obtain ⟨wd,hwd⟩ : ∃ wd,wd = w0.drew := ⟨_,rfl⟩
 have HMD : Hid (SM wd (fun k => k < C) gT cT gB cB gH cH q0 p0 a) := by rw [hwd];exact HM.out.kept (Kept.drew' (F := fun _ => False) w0) fun _ _ x => x
 have HGD0 : Hid (Grow w0 wd) := by rw [hwd];exact (Kept.refl _ w0).drew
 have HZD : Hid (wd.heap.size = b0) := by rw [hwd];exact HZ0.out
 have HCS : Hid (Cs wd wd b0 a.n a.T a.B 0 0 0 0 0 0 0 0) := ⟨Kept.refl _ _,by rw [HZD.out];exact Nat.le_refl _,trivial,trivial,fun e => absurd e (Nat.lt_irrefl 0),fun e => absurd e (Nat.lt_irrefl 0),fun e => absurd e (Nat.lt_irrefl 0),fun e => absurd e (Nat.lt_irrefl 0),fun e => absurd e (Nat.lt_irrefl 0),fun e => absurd e (Nat.lt_irrefl 0),fun e => absurd e (Nat.lt_irrefl 0)⟩
 have HST : Hid (gT < b0 ∧ ∀ j,j < a.n → wd.cell? ⟨gT,0 + j,none⟩ = some (tcell a.T j)) := ⟨by have h : gT < C := HMD.out.inG.1;have := HB00.out;have := HBD.out;omega,fun j hj => by rw [Nat.zero_add];exact HMD.out.tb.cell (by omega)⟩
 have HSB : Hid (gB < b0 ∧ ∀ j,j < a.n → wd.cell? ⟨gB,0 + j,none⟩ = some (bcell a.B j)) := ⟨by have h : gB < C := HMD.out.inG.2.1;have := HB00.out;have := HBD.out;omega,fun j hj => by rw [Nat.zero_add];exact HMD.out.bb.cell (by omega)⟩
 go_cut [3] from 5 to 13 (fun v wx => ∃ d,v = .pointer (some ⟨d,0,none⟩) ∧ C0 wd b0 d a wx)
 case first =>
  have q0 := up_cell (F := (b0 ≤ ·)) (w := w0.drew) (p := ⟨C,0,none⟩) (HS0.out.cell 0) (fun (e : b0 ≤ C) => by have := HB00.out;have := HBD.out;omega)
  have q1 := up_cell (F := (b0 ≤ ·)) (w := w0.drew) (p := ⟨C,1,none⟩) (HS0.out.cell 1) (fun (e : b0 ≤ C) => by have := HB00.out;have := HBD.out;omega)
  refine wp_region_tree (Kept (b0 ≤ ·)) (Kept (b0 ≤ ·)) (kept_refl _) (kept_trans _) (kept_refl _) (kept_trans _) (fun _ _ h => h) [] (.three true [1,2,5,6] 0 (.three true [] 3 (.two true [] 4 (.two true [] 7 (.one true [8] 9 (.one true [] 10 (.last true []))) 9 (.one true [] 7 (.one true [8] 10 (.last true [])))) 9 (.one true [] 4 (.one true [] 7 (.one true [8] 10 (.last true []))))) 4 (.two true [] 3 (.two true [] 7 (.one true [8] 9 (.one true [] 10 (.last true []))) 9 (.one true [] 7 (.one true [8] 10 (.last true [])))) 9 (.one true [] 3 (.one true [] 7 (.one true [8] 10 (.last true []))))) 9 (.two true [] 3 (.one true [] 4 (.one true [] 7 (.one true [8] 10 (.last true [])))) 4 (.one true [] 3 (.one true [] 7 (.one true [8] 10 (.last true [])))))) 4 (.two true [] 0 (.two true [] 3 (.two true [] 7 (.one true [8] 9 (.one true [] 10 (.last true []))) 9 (.one true [] 7 (.one true [8] 10 (.last true [])))) 9 (.one true [] 3 (.one true [] 7 (.one true [8] 10 (.last true []))))) 9 (.one true [] 0 (.one true [] 3 (.one true [] 7 (.one true [8] 10 (.last true [])))))) 9 (.two true [] 0 (.two true [] 3 (.one true [] 4 (.one true [] 7 (.one true [8] 10 (.last true [])))) 4 (.one true [] 3 (.one true [] 7 (.one true [8] 10 (.last true []))))) 4 (.one true [] 0 (.one true [] 3 (.one true [] 7 (.one true [8] 10 (.last true []))))))) (by kernel_rfl) (by kernel_rfl) ?_
  rw [← hwd] at q0 q1 ⊢
  clear hwd
  refine tr_threeE fun K1 hK1 K2 hK2 K3 hK3 => ?_
  simp only [sel,ZmC,ZmN,ZgS,ZgZ]
  repeat (go_big_quiet_step (fail))
  refine wpQuiet_nil ⟨?_,?_,?_⟩
  ·clear hK2 hK3 K2 K3 q0 q1
   go_wp2
   refine norm_up (hK1 _ _ (Lr_early (by decide) ((Kept.refl _ _).alloc _)) ?_)
   clear hK1 K1
   have HC1 := hid HCS.out.newT
   generalize wd.alloc (.cells #[] 4) = u1 at HC1 ⊢
   obtain ⟨x,hx⟩ : ∃ x,x = wd.heap.size := ⟨_,rfl⟩
   rw [← hx] at HC1 ⊢
   clear hx
   refine tr_threeE fun K1 hK1 K2 hK2 K3 hK3 => ?_
   simp only [sel,ZmC,ZmN,ZgS,ZgZ]
   refine wpQuiet_nil ⟨?_,?_,?_⟩
   ·clear hK2 hK3 K2 K3
    obtain ⟨x',cx,u2,hr,hcs,hkk⟩ := HC1.out.appT HST.out.1 HST.out.2 cT (by have := HGD.out.n;omega) (by have := HGD.out.n;omega)
    have HR := hid hr
    have HKK := hid hkk
    have HC2 := hid hcs
    clear hr hcs hkk
    go_wp2_with (at_builtin;refine Lib.wpList_append_run _ rfl _ _ _ _ rfl _ _ rfl rfl _ _ (HR.out _) ?_)
    refine norm_up (hK1 _ _ (Lr_early (by decide) HKK.out) ?_)
    clear hK1 K1 HR HKK
    refine tr_twoE fun K1 hK1 K2 hK2 => ?_
    simp only [sel,ZmC,ZmN,ZgS,ZgZ]
    refine wpQuiet_nil ⟨?_,?_⟩
    ·clear hK2 K2
     go_wp2
     refine norm_up (hK1 _ _ (Lr_early (by decide) ((Kept.refl _ _).alloc _)) ?_)
     clear hK1 K1
     have HC3 := hid HC2.out.newB
     generalize u2.alloc (.cells #[] 9) = u3 at HC3 ⊢
     obtain ⟨y,hy⟩ : ∃ y,y = u2.heap.size := ⟨_,rfl⟩
     rw [← hy] at HC3 ⊢
     clear hy
     refine tr_twoE fun K1 hK1 K2 hK2 => ?_
     simp only [sel,ZmC,ZmN,ZgS,ZgZ]
     refine wpQuiet_nil ⟨?_,?_⟩
     ·clear hK2 K2
      obtain ⟨y',cy,u4,hr,hcs,hkk⟩ := HC3.out.appB HSB.out.1 HSB.out.2 cB (by have := HGD.out.n;omega) (by have := HGD.out.n;omega)
      have HR := hid hr
      have HKK := hid hkk
      have HC4 := hid hcs
      clear hr hcs hkk
      go_wp2_with (at_builtin;refine Lib.wpList_append_run _ rfl _ _ _ _ rfl _ _ rfl rfl _ _ (HR.out _) ?_)
      refine norm_up (hK1 _ _ (Lr_early (by decide) HKK.out) ?_)
      clear hK1 K1 HR HKK
      refine tr_oneE fun K hK => ?_
      simp only [sel,ZmC,ZmN,ZgS,ZgZ]
      repeat (go_big_quiet_step (fail))
      refine wpQuiet_nil ?_
      go_wp2
      refine norm_up (hK _ _ (Lr_early (by decide) ((Kept.refl _ _).alloc _)) ?_)
      clear hK K
      have HC5 := hid HC4.out.newD
      generalize u4.alloc (.cells #[.slice none 0 0,.slice none 0 0,.slice none 0 0] 50) = u5 at HC5 ⊢
      obtain ⟨d,hd⟩ : ∃ d,d = u4.heap.size := ⟨_,rfl⟩
      rw [← hd] at HC5 ⊢
      clear hd
      refine tr_oneE fun K hK => ?_
      simp only [sel,ZmC,ZmN,ZgS,ZgZ]
      refine wpQuiet_nil ?_
      have HFIN := hid (HC5.out.fin (H := a.H))
      have hbd := HC5.out.D (by omega)
      have d0 := hbd.cell 0
      have d1 := hbd.cell 1
      have d2 := hbd.cell 2
      have df := hbd.frozen
      simp only [ZeZ,ZeS] at d0 d1 d2
      have HLD : Hid (b0 ≤ d) := (HC5.out.ld (by omega)).1
      have hks := ((kept_set u5 d 0 (.slice (some ⟨x',0,none⟩) a.n cx)).trans (kept_set _ d 1 (.slice (some ⟨y',0,none⟩) a.n cy))).trans (kept_set _ d 2 (.slice none 0 0))
      have HSZF : Hid (u5.heap.size ≤ (((u5.setCell ⟨d,0,none⟩ (.slice (some ⟨x',0,none⟩) a.n cx)).setCell ⟨d,1,none⟩ (.slice (some ⟨y',0,none⟩) a.n cy)).setCell ⟨d,2,none⟩ (.slice none 0 0)).heap.size) := hks.size
      have HKS := hid hks
      clear hbd hks
      go_wp2
      refine norm_up (hK _ _ (Lr_early (by decide) (HKS.out.mono fun k _ e => by have e : k = d := e;have := HLD.out;show b0 ≤ k;omega)) ?_)
      clear hK K d0 d1 d2 df
      refine tr_last (e := true) fun K hK => ?_
      simp only [sel,List.map_nil]
      refine wpQuiet_nil (hK _ ?_)
      clear hK K
      go_wp2
      go_meet
      exact ⟨_,rfl,_,_,_,HFIN.out.1,HFIN.out.2,HSZF.out⟩
     ·clear hK1 K1
      go_wp2
      refine norm_up (hK2 _ _ (Lr_early (by decide) ((Kept.refl _ _).alloc _)) ?_)
      clear hK2 K2
      have HC4 := hid HC3.out.newD
      generalize u3.alloc (.cells #[.slice none 0 0,.slice none 0 0,.slice none 0 0] 50) = u4 at HC4 ⊢
      obtain ⟨d,hd⟩ : ∃ d,d = u3.heap.size := ⟨_,rfl⟩
      rw [← hd] at HC4 ⊢
      clear hd
      refine tr_oneE fun K hK => ?_
      simp only [sel,ZmC,ZmN,ZgS,ZgZ]
      refine wpQuiet_nil ?_
      obtain ⟨y',cy,u5,hr,hcs,hkk⟩ := HC4.out.appB HSB.out.1 HSB.out.2 cB (by have := HGD.out.n;omega) (by have := HGD.out.n;omega)
      have HR := hid hr
      have HKK := hid hkk
      have HC5 := hid hcs
      clear hr hcs hkk
      go_wp2_with (at_builtin;refine Lib.wpList_append_run _ rfl _ _ _ _ rfl _ _ rfl rfl _ _ (HR.out _) ?_)
      refine norm_up (hK _ _ (Lr_early (by decide) HKK.out) ?_)
      clear hK K HR HKK
      refine tr_oneE fun K hK => ?_
      simp only [sel,ZmC,ZmN,ZgS,ZgZ]
      repeat (go_big_quiet_step (fail))
      refine wpQuiet_nil ?_
      have HFIN := hid (HC5.out.fin (H := a.H))
      have hbd := HC5.out.D (by omega)
      have d0 := hbd.cell 0
      have d1 := hbd.cell 1
      have d2 := hbd.cell 2
      have df := hbd.frozen
      simp only [ZeZ,ZeS] at d0 d1 d2
      have HLD : Hid (b0 ≤ d) := (HC5.out.ld (by omega)).1
      have hks := ((kept_set u5 d 0 (.slice (some ⟨x',0,none⟩) a.n cx)).trans (kept_set _ d 1 (.slice (some ⟨y',0,none⟩) a.n cy))).trans (kept_set _ d 2 (.slice none 0 0))
      have HSZF : Hid (u5.heap.size ≤ (((u5.setCell ⟨d,0,none⟩ (.slice (some ⟨x',0,none⟩) a.n cx)).setCell ⟨d,1,none⟩ (.slice (some ⟨y',0,none⟩) a.n cy)).setCell ⟨d,2,none⟩ (.slice none 0 0)).heap.size) := hks.size
      have HKS := hid hks
      clear hbd hks
      go_wp2
      refine norm_up (hK _ _ (Lr_early (by decide) (HKS.out.mono fun k _ e => by have e : k = d := e;have := HLD.out;show b0 ≤ k;omega)) ?_)
      clear hK K d0 d1 d2 df
      refine tr_last (e := true) fun K hK => ?_
      simp only [sel,List.map_nil]
      refine wpQuiet_nil (hK _ ?_)
      clear hK K
      go_wp2
      go_meet
      exact ⟨_,rfl,_,_,_,HFIN.out.1,HFIN.out.2,HSZF.out⟩
    ·clear hK1 K1
     go_wp2
     refine norm_up (hK2 _ _ (Lr_early (by decide) ((Kept.refl _ _).alloc _)) ?_)
     clear hK2 K2
     have HC3 := hid HC2.out.newD
     generalize u2.alloc (.cells #[.slice none 0 0,.slice none 0 0,.slice none 0 0] 50) = u3 at HC3 ⊢
     obtain ⟨d,hd⟩ : ∃ d,d = u2.heap.size := ⟨_,rfl⟩
     rw [← hd] at HC3 ⊢
     clear hd
     refine tr_oneE fun K hK => ?_
     simp only [sel,ZmC,ZmN,ZgS,ZgZ]
     refine wpQuiet_nil ?_
     go_wp2
     refine norm_up (hK _ _ (Lr_early (by decide) ((Kept.refl _ _).alloc _)) ?_)
     clear hK K
     have HC4 := hid HC3.out.newB
     generalize u3.alloc (.cells #[] 9) = u4 at HC4 ⊢
     obtain ⟨y,hy⟩ : ∃ y,y = u3.heap.size := ⟨_,rfl⟩
     rw [← hy] at HC4 ⊢
     clear hy
     refine tr_oneE fun K hK => ?_
     simp only [sel,ZmC,ZmN,ZgS,ZgZ]
     refine wpQuiet_nil ?_
     obtain ⟨y',cy,u5,hr,hcs,hkk⟩ := HC4.out.appB HSB.out.1 HSB.out.2 cB (by have := HGD.out.n;omega) (by have := HGD.out.n;omega)
     have HR := hid hr
     have HKK := hid hkk
     have HC5 := hid hcs
     clear hr hcs hkk
     go_wp2_with (at_builtin;refine Lib.wpList_append_run _ rfl _ _ _ _ rfl _ _ rfl rfl _ _ (HR.out _) ?_)
     refine norm_up (hK _ _ (Lr_early (by decide) HKK.out) ?_)
     clear hK K HR HKK
     refine tr_oneE fun K hK => ?_
     simp only [sel,ZmC,ZmN,ZgS,ZgZ]
     repeat (go_big_quiet_step (fail))
     refine wpQuiet_nil ?_
     have HFIN := hid (HC5.out.fin (H := a.H))
     have hbd := HC5.out.D (by omega)
     have d0 := hbd.cell 0
     have d1 := hbd.cell 1
     have d2 := hbd.cell 2
     have df := hbd.frozen
     simp only [ZeZ,ZeS] at d0 d1 d2
     have HLD : Hid (b0 ≤ d) := (HC5.out.ld (by omega)).1
     have hks := ((kept_set u5 d 0 (.slice (some ⟨x',0,none⟩) a.n cx)).trans (kept_set _ d 1 (.slice (some ⟨y',0,none⟩) a.n cy))).trans (kept_set _ d 2 (.slice none 0 0))
     have HSZF : Hid (u5.heap.size ≤ (((u5.setCell ⟨d,0,none⟩ (.slice (some ⟨x',0,none⟩) a.n cx)).setCell ⟨d,1,none⟩ (.slice (some ⟨y',0,none⟩) a.n cy)).setCell ⟨d,2,none⟩ (.slice none 0 0)).heap.size) := hks.size
     have HKS := hid hks
     clear hbd hks
     go_wp2
     refine norm_up (hK _ _ (Lr_early (by decide) (HKS.out.mono fun k _ e => by have e : k = d := e;have := HLD.out;show b0 ≤ k;omega)) ?_)
     clear hK K d0 d1 d2 df
     refine tr_last (e := true) fun K hK => ?_
     simp only [sel,List.map_nil]
     refine wpQuiet_nil (hK _ ?_)
     clear hK K
     go_wp2
     go_meet
     exact ⟨_,rfl,_,_,_,HFIN.out.1,HFIN.out.2,HSZF.out⟩
   ·clear hK1 hK3 K1 K3
    go_wp2
    refine norm_up (hK2 _ _ (Lr_early (by decide) ((Kept.refl _ _).alloc _)) ?_)
    clear hK2 K2
    have HC2 := hid HC1.out.newB
    generalize u1.alloc (.cells #[] 9) = u2 at HC2 ⊢
    obtain ⟨y,hy⟩ : ∃ y,y = u1.heap.size := ⟨_,rfl⟩
    rw [← hy] at HC2 ⊢
    clear hy
    refine tr_twoE fun K1 hK1 K2 hK2 => ?_
    simp only [sel,ZmC,ZmN,ZgS,ZgZ]
    refine wpQuiet_nil ⟨?_,?_⟩
    ·clear hK2 K2
     obtain ⟨x',cx,u3,hr,hcs,hkk⟩ := HC2.out.appT HST.out.1 HST.out.2 cT (by have := HGD.out.n;omega) (by have := HGD.out.n;omega)
     have HR := hid hr
     have HKK := hid hkk
     have HC3 := hid hcs
     clear hr hcs hkk
     go_wp2_with (at_builtin;refine Lib.wpList_append_run _ rfl _ _ _ _ rfl _ _ rfl rfl _ _ (HR.out _) ?_)
     refine norm_up (hK1 _ _ (Lr_early (by decide) HKK.out) ?_)
     clear hK1 K1 HR HKK
     refine tr_twoE fun K1 hK1 K2 hK2 => ?_
     simp only [sel,ZmC,ZmN,ZgS,ZgZ]
     refine wpQuiet_nil ⟨?_,?_⟩
     ·clear hK2 K2
      obtain ⟨y',cy,u4,hr,hcs,hkk⟩ := HC3.out.appB HSB.out.1 HSB.out.2 cB (by have := HGD.out.n;omega) (by have := HGD.out.n;omega)
      have HR := hid hr
      have HKK := hid hkk
      have HC4 := hid hcs
      clear hr hcs hkk
      go_wp2_with (at_builtin;refine Lib.wpList_append_run _ rfl _ _ _ _ rfl _ _ rfl rfl _ _ (HR.out _) ?_)
      refine norm_up (hK1 _ _ (Lr_early (by decide) HKK.out) ?_)
      clear hK1 K1 HR HKK
      refine tr_oneE fun K hK => ?_
      simp only [sel,ZmC,ZmN,ZgS,ZgZ]
      repeat (go_big_quiet_step (fail))
      refine wpQuiet_nil ?_
      go_wp2
      refine norm_up (hK _ _ (Lr_early (by decide) ((Kept.refl _ _).alloc _)) ?_)
      clear hK K
      have HC5 := hid HC4.out.newD
      generalize u4.alloc (.cells #[.slice none 0 0,.slice none 0 0,.slice none 0 0] 50) = u5 at HC5 ⊢
      obtain ⟨d,hd⟩ : ∃ d,d = u4.heap.size := ⟨_,rfl⟩
      rw [← hd] at HC5 ⊢
      clear hd
      refine tr_oneE fun K hK => ?_
      simp only [sel,ZmC,ZmN,ZgS,ZgZ]
      refine wpQuiet_nil ?_
      have HFIN := hid (HC5.out.fin (H := a.H))
      have hbd := HC5.out.D (by omega)
      have d0 := hbd.cell 0
      have d1 := hbd.cell 1
      have d2 := hbd.cell 2
      have df := hbd.frozen
      simp only [ZeZ,ZeS] at d0 d1 d2
      have HLD : Hid (b0 ≤ d) := (HC5.out.ld (by omega)).1
      have hks := ((kept_set u5 d 0 (.slice (some ⟨x',0,none⟩) a.n cx)).trans (kept_set _ d 1 (.slice (some ⟨y',0,none⟩) a.n cy))).trans (kept_set _ d 2 (.slice none 0 0))
      have HSZF : Hid (u5.heap.size ≤ (((u5.setCell ⟨d,0,none⟩ (.slice (some ⟨x',0,none⟩) a.n cx)).setCell ⟨d,1,none⟩ (.slice (some ⟨y',0,none⟩) a.n cy)).setCell ⟨d,2,none⟩ (.slice none 0 0)).heap.size) := hks.size
      have HKS := hid hks
      clear hbd hks
      go_wp2
      refine norm_up (hK _ _ (Lr_early (by decide) (HKS.out.mono fun k _ e => by have e : k = d := e;have := HLD.out;show b0 ≤ k;omega)) ?_)
      clear hK K d0 d1 d2 df
      refine tr_last (e := true) fun K hK => ?_
      simp only [sel,List.map_nil]
      refine wpQuiet_nil (hK _ ?_)
      clear hK K
      go_wp2
      go_meet
      exact ⟨_,rfl,_,_,_,HFIN.out.1,HFIN.out.2,HSZF.out⟩
     ·clear hK1 K1
      go_wp2
      refine norm_up (hK2 _ _ (Lr_early (by decide) ((Kept.refl _ _).alloc _)) ?_)
      clear hK2 K2
      have HC4 := hid HC3.out.newD
      generalize u3.alloc (.cells #[.slice none 0 0,.slice none 0 0,.slice none 0 0] 50) = u4 at HC4 ⊢
      obtain ⟨d,hd⟩ : ∃ d,d = u3.heap.size := ⟨_,rfl⟩
      rw [← hd] at HC4 ⊢
      clear hd
      refine tr_oneE fun K hK => ?_
      simp only [sel,ZmC,ZmN,ZgS,ZgZ]
      refine wpQuiet_nil ?_
      obtain ⟨y',cy,u5,hr,hcs,hkk⟩ := HC4.out.appB HSB.out.1 HSB.out.2 cB (by have := HGD.out.n;omega) (by have := HGD.out.n;omega)
      have HR := hid hr
      have HKK := hid hkk
      have HC5 := hid hcs
      clear hr hcs hkk
      go_wp2_with (at_builtin;refine Lib.wpList_append_run _ rfl _ _ _ _ rfl _ _ rfl rfl _ _ (HR.out _) ?_)
      refine norm_up (hK _ _ (Lr_early (by decide) HKK.out) ?_)
      clear hK K HR HKK
      refine tr_oneE fun K hK => ?_
      simp only [sel,ZmC,ZmN,ZgS,ZgZ]
      repeat (go_big_quiet_step (fail))
      refine wpQuiet_nil ?_
      have HFIN := hid (HC5.out.fin (H := a.H))
      have hbd := HC5.out.D (by omega)
      have d0 := hbd.cell 0
      have d1 := hbd.cell 1
      have d2 := hbd.cell 2
      have df := hbd.frozen
      simp only [ZeZ,ZeS] at d0 d1 d2
      have HLD : Hid (b0 ≤ d) := (HC5.out.ld (by omega)).1
      have hks := ((kept_set u5 d 0 (.slice (some ⟨x',0,none⟩) a.n cx)).trans (kept_set _ d 1 (.slice (some ⟨y',0,none⟩) a.n cy))).trans (kept_set _ d 2 (.slice none 0 0))
      have HSZF : Hid (u5.heap.size ≤ (((u5.setCell ⟨d,0,none⟩ (.slice (some ⟨x',0,none⟩) a.n cx)).setCell ⟨d,1,none⟩ (.slice (some ⟨y',0,none⟩) a.n cy)).setCell ⟨d,2,none⟩ (.slice none 0 0)).heap.size) := hks.size
      have HKS := hid hks
      clear hbd hks
      go_wp2
      refine norm_up (hK _ _ (Lr_early (by decide) (HKS.out.mono fun k _ e => by have e : k = d := e;have := HLD.out;show b0 ≤ k;omega)) ?_)
      clear hK K d0 d1 d2 df
      refine tr_last (e := true) fun K hK => ?_
      simp only [sel,List.map_nil]
      refine wpQuiet_nil (hK _ ?_)
      clear hK K
      go_wp2
      go_meet
      exact ⟨_,rfl,_,_,_,HFIN.out.1,HFIN.out.2,HSZF.out⟩
    ·clear hK1 K1
     go_wp2
     refine norm_up (hK2 _ _ (Lr_early (by decide) ((Kept.refl _ _).alloc _)) ?_)
     clear hK2 K2
     have HC3 := hid HC2.out.newD
     generalize u2.alloc (.cells #[.slice none 0 0,.slice none 0 0,.slice none 0 0] 50) = u3 at HC3 ⊢
     obtain ⟨d,hd⟩ : ∃ d,d = u2.heap.size := ⟨_,rfl⟩
     rw [← hd] at HC3 ⊢
     clear hd
     refine tr_oneE fun K hK => ?_
     simp only [sel,ZmC,ZmN,ZgS,ZgZ]
     refine wpQuiet_nil ?_
     obtain ⟨x',cx,u4,hr,hcs,hkk⟩ := HC3.out.appT HST.out.1 HST.out.2 cT (by have := HGD.out.n;omega) (by have := HGD.out.n;omega)
     have HR := hid hr
     have HKK := hid hkk
     have HC4 := hid hcs
     clear hr hcs hkk
     go_wp2_with (at_builtin;refine Lib.wpList_append_run _ rfl _ _ _ _ rfl _ _ rfl rfl _ _ (HR.out _) ?_)
     refine norm_up (hK _ _ (Lr_early (by decide) HKK.out) ?_)
     clear hK K HR HKK
     refine tr_oneE fun K hK => ?_
     simp only [sel,ZmC,ZmN,ZgS,ZgZ]
     refine wpQuiet_nil ?_
     obtain ⟨y',cy,u5,hr,hcs,hkk⟩ := HC4.out.appB HSB.out.1 HSB.out.2 cB (by have := HGD.out.n;omega) (by have := HGD.out.n;omega)
     have HR := hid hr
     have HKK := hid hkk
     have HC5 := hid hcs
     clear hr hcs hkk
     go_wp2_with (at_builtin;refine Lib.wpList_append_run _ rfl _ _ _ _ rfl _ _ rfl rfl _ _ (HR.out _) ?_)
     refine norm_up (hK _ _ (Lr_early (by decide) HKK.out) ?_)
     clear hK K HR HKK
     refine tr_oneE fun K hK => ?_
     simp only [sel,ZmC,ZmN,ZgS,ZgZ]
     repeat (go_big_quiet_step (fail))
     refine wpQuiet_nil ?_
     have HFIN := hid (HC5.out.fin (H := a.H))
     have hbd := HC5.out.D (by omega)
     have d0 := hbd.cell 0
     have d1 := hbd.cell 1
     have d2 := hbd.cell 2
     have df := hbd.frozen
     simp only [ZeZ,ZeS] at d0 d1 d2
     have HLD : Hid (b0 ≤ d) := (HC5.out.ld (by omega)).1
     have hks := ((kept_set u5 d 0 (.slice (some ⟨x',0,none⟩) a.n cx)).trans (kept_set _ d 1 (.slice (some ⟨y',0,none⟩) a.n cy))).trans (kept_set _ d 2 (.slice none 0 0))
     have HSZF : Hid (u5.heap.size ≤ (((u5.setCell ⟨d,0,none⟩ (.slice (some ⟨x',0,none⟩) a.n cx)).setCell ⟨d,1,none⟩ (.slice (some ⟨y',0,none⟩) a.n cy)).setCell ⟨d,2,none⟩ (.slice none 0 0)).heap.size) := hks.size
     have HKS := hid hks
     clear hbd hks
     go_wp2
     refine norm_up (hK _ _ (Lr_early (by decide) (HKS.out.mono fun k _ e => by have e : k = d := e;have := HLD.out;show b0 ≤ k;omega)) ?_)
     clear hK K d0 d1 d2 df
     refine tr_last (e := true) fun K hK => ?_
     simp only [sel,List.map_nil]
     refine wpQuiet_nil (hK _ ?_)
     clear hK K
     go_wp2
     go_meet
     exact ⟨_,rfl,_,_,_,HFIN.out.1,HFIN.out.2,HSZF.out⟩
   ·clear hK1 hK2 K1 K2
    go_wp2
    refine norm_up (hK3 _ _ (Lr_early (by decide) ((Kept.refl _ _).alloc _)) ?_)
    clear hK3 K3
    have HC2 := hid HC1.out.newD
    generalize u1.alloc (.cells #[.slice none 0 0,.slice none 0 0,.slice none 0 0] 50) = u2 at HC2 ⊢
    obtain ⟨d,hd⟩ : ∃ d,d = u1.heap.size := ⟨_,rfl⟩
    rw [← hd] at HC2 ⊢
    clear hd
    refine tr_twoE fun K1 hK1 K2 hK2 => ?_
    simp only [sel,ZmC,ZmN,ZgS,ZgZ]
    refine wpQuiet_nil ⟨?_,?_⟩
    ·clear hK2 K2
     obtain ⟨x',cx,u3,hr,hcs,hkk⟩ := HC2.out.appT HST.out.1 HST.out.2 cT (by have := HGD.out.n;omega) (by have := HGD.out.n;omega)
     have HR := hid hr
     have HKK := hid hkk
     have HC3 := hid hcs
     clear hr hcs hkk
     go_wp2_with (at_builtin;refine Lib.wpList_append_run _ rfl _ _ _ _ rfl _ _ rfl rfl _ _ (HR.out _) ?_)
     refine norm_up (hK1 _ _ (Lr_early (by decide) HKK.out) ?_)
     clear hK1 K1 HR HKK
     refine tr_oneE fun K hK => ?_
     simp only [sel,ZmC,ZmN,ZgS,ZgZ]
     refine wpQuiet_nil ?_
     go_wp2
     refine norm_up (hK _ _ (Lr_early (by decide) ((Kept.refl _ _).alloc _)) ?_)
     clear hK K
     have HC4 := hid HC3.out.newB
     generalize u3.alloc (.cells #[] 9) = u4 at HC4 ⊢
     obtain ⟨y,hy⟩ : ∃ y,y = u3.heap.size := ⟨_,rfl⟩
     rw [← hy] at HC4 ⊢
     clear hy
     refine tr_oneE fun K hK => ?_
     simp only [sel,ZmC,ZmN,ZgS,ZgZ]
     refine wpQuiet_nil ?_
     obtain ⟨y',cy,u5,hr,hcs,hkk⟩ := HC4.out.appB HSB.out.1 HSB.out.2 cB (by have := HGD.out.n;omega) (by have := HGD.out.n;omega)
     have HR := hid hr
     have HKK := hid hkk
     have HC5 := hid hcs
     clear hr hcs hkk
     go_wp2_with (at_builtin;refine Lib.wpList_append_run _ rfl _ _ _ _ rfl _ _ rfl rfl _ _ (HR.out _) ?_)
     refine norm_up (hK _ _ (Lr_early (by decide) HKK.out) ?_)
     clear hK K HR HKK
     refine tr_oneE fun K hK => ?_
     simp only [sel,ZmC,ZmN,ZgS,ZgZ]
     repeat (go_big_quiet_step (fail))
     refine wpQuiet_nil ?_
     have HFIN := hid (HC5.out.fin (H := a.H))
     have hbd := HC5.out.D (by omega)
     have d0 := hbd.cell 0
     have d1 := hbd.cell 1
     have d2 := hbd.cell 2
     have df := hbd.frozen
     simp only [ZeZ,ZeS] at d0 d1 d2
     have HLD : Hid (b0 ≤ d) := (HC5.out.ld (by omega)).1
     have hks := ((kept_set u5 d 0 (.slice (some ⟨x',0,none⟩) a.n cx)).trans (kept_set _ d 1 (.slice (some ⟨y',0,none⟩) a.n cy))).trans (kept_set _ d 2 (.slice none 0 0))
     have HSZF : Hid (u5.heap.size ≤ (((u5.setCell ⟨d,0,none⟩ (.slice (some ⟨x',0,none⟩) a.n cx)).setCell ⟨d,1,none⟩ (.slice (some ⟨y',0,none⟩) a.n cy)).setCell ⟨d,2,none⟩ (.slice none 0 0)).heap.size) := hks.size
     have HKS := hid hks
     clear hbd hks
     go_wp2
     refine norm_up (hK _ _ (Lr_early (by decide) (HKS.out.mono fun k _ e => by have e : k = d := e;have := HLD.out;show b0 ≤ k;omega)) ?_)
     clear hK K d0 d1 d2 df
     refine tr_last (e := true) fun K hK => ?_
     simp only [sel,List.map_nil]
     refine wpQuiet_nil (hK _ ?_)
     clear hK K
     go_wp2
     go_meet
     exact ⟨_,rfl,_,_,_,HFIN.out.1,HFIN.out.2,HSZF.out⟩
    ·clear hK1 K1
     go_wp2
     refine norm_up (hK2 _ _ (Lr_early (by decide) ((Kept.refl _ _).alloc _)) ?_)
     clear hK2 K2
     have HC3 := hid HC2.out.newB
     generalize u2.alloc (.cells #[] 9) = u3 at HC3 ⊢
     obtain ⟨y,hy⟩ : ∃ y,y = u2.heap.size := ⟨_,rfl⟩
     rw [← hy] at HC3 ⊢
     clear hy
     refine tr_oneE fun K hK => ?_
     simp only [sel,ZmC,ZmN,ZgS,ZgZ]
     refine wpQuiet_nil ?_
     obtain ⟨x',cx,u4,hr,hcs,hkk⟩ := HC3.out.appT HST.out.1 HST.out.2 cT (by have := HGD.out.n;omega) (by have := HGD.out.n;omega)
     have HR := hid hr
     have HKK := hid hkk
     have HC4 := hid hcs
     clear hr hcs hkk
     go_wp2_with (at_builtin;refine Lib.wpList_append_run _ rfl _ _ _ _ rfl _ _ rfl rfl _ _ (HR.out _) ?_)
     refine norm_up (hK _ _ (Lr_early (by decide) HKK.out) ?_)
     clear hK K HR HKK
     refine tr_oneE fun K hK => ?_
     simp only [sel,ZmC,ZmN,ZgS,ZgZ]
     refine wpQuiet_nil ?_
     obtain ⟨y',cy,u5,hr,hcs,hkk⟩ := HC4.out.appB HSB.out.1 HSB.out.2 cB (by have := HGD.out.n;omega) (by have := HGD.out.n;omega)
     have HR := hid hr
     have HKK := hid hkk
     have HC5 := hid hcs
     clear hr hcs hkk
     go_wp2_with (at_builtin;refine Lib.wpList_append_run _ rfl _ _ _ _ rfl _ _ rfl rfl _ _ (HR.out _) ?_)
     refine norm_up (hK _ _ (Lr_early (by decide) HKK.out) ?_)
     clear hK K HR HKK
     refine tr_oneE fun K hK => ?_
     simp only [sel,ZmC,ZmN,ZgS,ZgZ]
     repeat (go_big_quiet_step (fail))
     refine wpQuiet_nil ?_
     have HFIN := hid (HC5.out.fin (H := a.H))
     have hbd := HC5.out.D (by omega)
     have d0 := hbd.cell 0
     have d1 := hbd.cell 1
     have d2 := hbd.cell 2
     have df := hbd.frozen
     simp only [ZeZ,ZeS] at d0 d1 d2
     have HLD : Hid (b0 ≤ d) := (HC5.out.ld (by omega)).1
     have hks := ((kept_set u5 d 0 (.slice (some ⟨x',0,none⟩) a.n cx)).trans (kept_set _ d 1 (.slice (some ⟨y',0,none⟩) a.n cy))).trans (kept_set _ d 2 (.slice none 0 0))
     have HSZF : Hid (u5.heap.size ≤ (((u5.setCell ⟨d,0,none⟩ (.slice (some ⟨x',0,none⟩) a.n cx)).setCell ⟨d,1,none⟩ (.slice (some ⟨y',0,none⟩) a.n cy)).setCell ⟨d,2,none⟩ (.slice none 0 0)).heap.size) := hks.size
     have HKS := hid hks
     clear hbd hks
     go_wp2
     refine norm_up (hK _ _ (Lr_early (by decide) (HKS.out.mono fun k _ e => by have e : k = d := e;have := HLD.out;show b0 ≤ k;omega)) ?_)
     clear hK K d0 d1 d2 df
     refine tr_last (e := true) fun K hK => ?_
     simp only [sel,List.map_nil]
     refine wpQuiet_nil (hK _ ?_)
     clear hK K
     go_wp2
     go_meet
     exact ⟨_,rfl,_,_,_,HFIN.out.1,HFIN.out.2,HSZF.out⟩
  ·clear hK1 hK3 K1 K3 q0 q1
   go_wp2
   refine norm_up (hK2 _ _ (Lr_early (by decide) ((Kept.refl _ _).alloc _)) ?_)
   clear hK2 K2
   have HC1 := hid HCS.out.newB
   generalize wd.alloc (.cells #[] 9) = u1 at HC1 ⊢
   obtain ⟨y,hy⟩ : ∃ y,y = wd.heap.size := ⟨_,rfl⟩
   rw [← hy] at HC1 ⊢
   clear hy
   refine tr_twoE fun K1 hK1 K2 hK2 => ?_
   simp only [sel,ZmC,ZmN,ZgS,ZgZ]
   refine wpQuiet_nil ⟨?_,?_⟩
   ·clear hK2 K2
    go_wp2
    refine norm_up (hK1 _ _ (Lr_early (by decide) ((Kept.refl _ _).alloc _)) ?_)
    clear hK1 K1
    have HC2 := hid HC1.out.newT
    generalize u1.alloc (.cells #[] 4) = u2 at HC2 ⊢
    obtain ⟨x,hx⟩ : ∃ x,x = u1.heap.size := ⟨_,rfl⟩
    rw [← hx] at HC2 ⊢
    clear hx
    refine tr_twoE fun K1 hK1 K2 hK2 => ?_
    simp only [sel,ZmC,ZmN,ZgS,ZgZ]
    refine wpQuiet_nil ⟨?_,?_⟩
    ·clear hK2 K2
     obtain ⟨x',cx,u3,hr,hcs,hkk⟩ := HC2.out.appT HST.out.1 HST.out.2 cT (by have := HGD.out.n;omega) (by have := HGD.out.n;omega)
     have HR := hid hr
     have HKK := hid hkk
     have HC3 := hid hcs
     clear hr hcs hkk
     go_wp2_with (at_builtin;refine Lib.wpList_append_run _ rfl _ _ _ _ rfl _ _ rfl rfl _ _ (HR.out _) ?_)
     refine norm_up (hK1 _ _ (Lr_early (by decide) HKK.out) ?_)
     clear hK1 K1 HR HKK
     refine tr_twoE fun K1 hK1 K2 hK2 => ?_
     simp only [sel,ZmC,ZmN,ZgS,ZgZ]
     refine wpQuiet_nil ⟨?_,?_⟩
     ·clear hK2 K2
      obtain ⟨y',cy,u4,hr,hcs,hkk⟩ := HC3.out.appB HSB.out.1 HSB.out.2 cB (by have := HGD.out.n;omega) (by have := HGD.out.n;omega)
      have HR := hid hr
      have HKK := hid hkk
      have HC4 := hid hcs
      clear hr hcs hkk
      go_wp2_with (at_builtin;refine Lib.wpList_append_run _ rfl _ _ _ _ rfl _ _ rfl rfl _ _ (HR.out _) ?_)
      refine norm_up (hK1 _ _ (Lr_early (by decide) HKK.out) ?_)
      clear hK1 K1 HR HKK
      refine tr_oneE fun K hK => ?_
      simp only [sel,ZmC,ZmN,ZgS,ZgZ]
      repeat (go_big_quiet_step (fail))
      refine wpQuiet_nil ?_
      go_wp2
      refine norm_up (hK _ _ (Lr_early (by decide) ((Kept.refl _ _).alloc _)) ?_)
      clear hK K
      have HC5 := hid HC4.out.newD
      generalize u4.alloc (.cells #[.slice none 0 0,.slice none 0 0,.slice none 0 0] 50) = u5 at HC5 ⊢
      obtain ⟨d,hd⟩ : ∃ d,d = u4.heap.size := ⟨_,rfl⟩
      rw [← hd] at HC5 ⊢
      clear hd
      refine tr_oneE fun K hK => ?_
      simp only [sel,ZmC,ZmN,ZgS,ZgZ]
      refine wpQuiet_nil ?_
      have HFIN := hid (HC5.out.fin (H := a.H))
      have hbd := HC5.out.D (by omega)
      have d0 := hbd.cell 0
      have d1 := hbd.cell 1
      have d2 := hbd.cell 2
      have df := hbd.frozen
      simp only [ZeZ,ZeS] at d0 d1 d2
      have HLD : Hid (b0 ≤ d) := (HC5.out.ld (by omega)).1
      have hks := ((kept_set u5 d 0 (.slice (some ⟨x',0,none⟩) a.n cx)).trans (kept_set _ d 1 (.slice (some ⟨y',0,none⟩) a.n cy))).trans (kept_set _ d 2 (.slice none 0 0))
      have HSZF : Hid (u5.heap.size ≤ (((u5.setCell ⟨d,0,none⟩ (.slice (some ⟨x',0,none⟩) a.n cx)).setCell ⟨d,1,none⟩ (.slice (some ⟨y',0,none⟩) a.n cy)).setCell ⟨d,2,none⟩ (.slice none 0 0)).heap.size) := hks.size
      have HKS := hid hks
      clear hbd hks
      go_wp2
      refine norm_up (hK _ _ (Lr_early (by decide) (HKS.out.mono fun k _ e => by have e : k = d := e;have := HLD.out;show b0 ≤ k;omega)) ?_)
      clear hK K d0 d1 d2 df
      refine tr_last (e := true) fun K hK => ?_
      simp only [sel,List.map_nil]
      refine wpQuiet_nil (hK _ ?_)
      clear hK K
      go_wp2
      go_meet
      exact ⟨_,rfl,_,_,_,HFIN.out.1,HFIN.out.2,HSZF.out⟩
     ·clear hK1 K1
      go_wp2
      refine norm_up (hK2 _ _ (Lr_early (by decide) ((Kept.refl _ _).alloc _)) ?_)
      clear hK2 K2
      have HC4 := hid HC3.out.newD
      generalize u3.alloc (.cells #[.slice none 0 0,.slice none 0 0,.slice none 0 0] 50) = u4 at HC4 ⊢
      obtain ⟨d,hd⟩ : ∃ d,d = u3.heap.size := ⟨_,rfl⟩
      rw [← hd] at HC4 ⊢
      clear hd
      refine tr_oneE fun K hK => ?_
      simp only [sel,ZmC,ZmN,ZgS,ZgZ]
      refine wpQuiet_nil ?_
      obtain ⟨y',cy,u5,hr,hcs,hkk⟩ := HC4.out.appB HSB.out.1 HSB.out.2 cB (by have := HGD.out.n;omega) (by have := HGD.out.n;omega)
      have HR := hid hr
      have HKK := hid hkk
      have HC5 := hid hcs
      clear hr hcs hkk
      go_wp2_with (at_builtin;refine Lib.wpList_append_run _ rfl _ _ _ _ rfl _ _ rfl rfl _ _ (HR.out _) ?_)
      refine norm_up (hK _ _ (Lr_early (by decide) HKK.out) ?_)
      clear hK K HR HKK
      refine tr_oneE fun K hK => ?_
      simp only [sel,ZmC,ZmN,ZgS,ZgZ]
      repeat (go_big_quiet_step (fail))
      refine wpQuiet_nil ?_
      have HFIN := hid (HC5.out.fin (H := a.H))
      have hbd := HC5.out.D (by omega)
      have d0 := hbd.cell 0
      have d1 := hbd.cell 1
      have d2 := hbd.cell 2
      have df := hbd.frozen
      simp only [ZeZ,ZeS] at d0 d1 d2
      have HLD : Hid (b0 ≤ d) := (HC5.out.ld (by omega)).1
      have hks := ((kept_set u5 d 0 (.slice (some ⟨x',0,none⟩) a.n cx)).trans (kept_set _ d 1 (.slice (some ⟨y',0,none⟩) a.n cy))).trans (kept_set _ d 2 (.slice none 0 0))
      have HSZF : Hid (u5.heap.size ≤ (((u5.setCell ⟨d,0,none⟩ (.slice (some ⟨x',0,none⟩) a.n cx)).setCell ⟨d,1,none⟩ (.slice (some ⟨y',0,none⟩) a.n cy)).setCell ⟨d,2,none⟩ (.slice none 0 0)).heap.size) := hks.size
      have HKS := hid hks
      clear hbd hks
      go_wp2
      refine norm_up (hK _ _ (Lr_early (by decide) (HKS.out.mono fun k _ e => by have e : k = d := e;have := HLD.out;show b0 ≤ k;omega)) ?_)
      clear hK K d0 d1 d2 df
      refine tr_last (e := true) fun K hK => ?_
      simp only [sel,List.map_nil]
      refine wpQuiet_nil (hK _ ?_)
      clear hK K
      go_wp2
      go_meet
      exact ⟨_,rfl,_,_,_,HFIN.out.1,HFIN.out.2,HSZF.out⟩
    ·clear hK1 K1
     go_wp2
     refine norm_up (hK2 _ _ (Lr_early (by decide) ((Kept.refl _ _).alloc _)) ?_)
     clear hK2 K2
     have HC3 := hid HC2.out.newD
     generalize u2.alloc (.cells #[.slice none 0 0,.slice none 0 0,.slice none 0 0] 50) = u3 at HC3 ⊢
     obtain ⟨d,hd⟩ : ∃ d,d = u2.heap.size := ⟨_,rfl⟩
     rw [← hd] at HC3 ⊢
     clear hd
     refine tr_oneE fun K hK => ?_
     simp only [sel,ZmC,ZmN,ZgS,ZgZ]
     refine wpQuiet_nil ?_
     obtain ⟨x',cx,u4,hr,hcs,hkk⟩ := HC3.out.appT HST.out.1 HST.out.2 cT (by have := HGD.out.n;omega) (by have := HGD.out.n;omega)
     have HR := hid hr
     have HKK := hid hkk
     have HC4 := hid hcs
     clear hr hcs hkk
     go_wp2_with (at_builtin;refine Lib.wpList_append_run _ rfl _ _ _ _ rfl _ _ rfl rfl _ _ (HR.out _) ?_)
     refine norm_up (hK _ _ (Lr_early (by decide) HKK.out) ?_)
     clear hK K HR HKK
     refine tr_oneE fun K hK => ?_
     simp only [sel,ZmC,ZmN,ZgS,ZgZ]
     refine wpQuiet_nil ?_
     obtain ⟨y',cy,u5,hr,hcs,hkk⟩ := HC4.out.appB HSB.out.1 HSB.out.2 cB (by have := HGD.out.n;omega) (by have := HGD.out.n;omega)
     have HR := hid hr
     have HKK := hid hkk
     have HC5 := hid hcs
     clear hr hcs hkk
     go_wp2_with (at_builtin;refine Lib.wpList_append_run _ rfl _ _ _ _ rfl _ _ rfl rfl _ _ (HR.out _) ?_)
     refine norm_up (hK _ _ (Lr_early (by decide) HKK.out) ?_)
     clear hK K HR HKK
     refine tr_oneE fun K hK => ?_
     simp only [sel,ZmC,ZmN,ZgS,ZgZ]
     repeat (go_big_quiet_step (fail))
     refine wpQuiet_nil ?_
     have HFIN := hid (HC5.out.fin (H := a.H))
     have hbd := HC5.out.D (by omega)
     have d0 := hbd.cell 0
     have d1 := hbd.cell 1
     have d2 := hbd.cell 2
     have df := hbd.frozen
     simp only [ZeZ,ZeS] at d0 d1 d2
     have HLD : Hid (b0 ≤ d) := (HC5.out.ld (by omega)).1
     have hks := ((kept_set u5 d 0 (.slice (some ⟨x',0,none⟩) a.n cx)).trans (kept_set _ d 1 (.slice (some ⟨y',0,none⟩) a.n cy))).trans (kept_set _ d 2 (.slice none 0 0))
     have HSZF : Hid (u5.heap.size ≤ (((u5.setCell ⟨d,0,none⟩ (.slice (some ⟨x',0,none⟩) a.n cx)).setCell ⟨d,1,none⟩ (.slice (some ⟨y',0,none⟩) a.n cy)).setCell ⟨d,2,none⟩ (.slice none 0 0)).heap.size) := hks.size
     have HKS := hid hks
     clear hbd hks
     go_wp2
     refine norm_up (hK _ _ (Lr_early (by decide) (HKS.out.mono fun k _ e => by have e : k = d := e;have := HLD.out;show b0 ≤ k;omega)) ?_)
     clear hK K d0 d1 d2 df
     refine tr_last (e := true) fun K hK => ?_
     simp only [sel,List.map_nil]
     refine wpQuiet_nil (hK _ ?_)
     clear hK K
     go_wp2
     go_meet
     exact ⟨_,rfl,_,_,_,HFIN.out.1,HFIN.out.2,HSZF.out⟩
   ·clear hK1 K1
    go_wp2
    refine norm_up (hK2 _ _ (Lr_early (by decide) ((Kept.refl _ _).alloc _)) ?_)
    clear hK2 K2
    have HC2 := hid HC1.out.newD
    generalize u1.alloc (.cells #[.slice none 0 0,.slice none 0 0,.slice none 0 0] 50) = u2 at HC2 ⊢
    obtain ⟨d,hd⟩ : ∃ d,d = u1.heap.size := ⟨_,rfl⟩
    rw [← hd] at HC2 ⊢
    clear hd
    refine tr_oneE fun K hK => ?_
    simp only [sel,List.map_cons,List.map_nil,List.getD_cons_zero]
    refine wpQuiet_nil ?_
    go_wp2
    refine norm_up (hK _ _ (Lr_early (by decide) ((Kept.refl _ _).alloc _)) ?_)
    clear hK K
    have HC3 := hid HC2.out.newT
    generalize u2.alloc (.cells #[] 4) = u3 at HC3 ⊢
    obtain ⟨x,hx⟩ : ∃ x,x = u2.heap.size := ⟨_,rfl⟩
    rw [← hx] at HC3 ⊢
    clear hx
    refine tr_oneE fun K hK => ?_
    simp only [sel,ZmC,ZmN,ZgS,ZgZ]
    refine wpQuiet_nil ?_
    obtain ⟨x',cx,u4,hr,hcs,hkk⟩ := HC3.out.appT HST.out.1 HST.out.2 cT (by have := HGD.out.n;omega) (by have := HGD.out.n;omega)
    have HR := hid hr
    have HKK := hid hkk
    have HC4 := hid hcs
    clear hr hcs hkk
    go_wp2_with (at_builtin;refine Lib.wpList_append_run _ rfl _ _ _ _ rfl _ _ rfl rfl _ _ (HR.out _) ?_)
    refine norm_up (hK _ _ (Lr_early (by decide) HKK.out) ?_)
    clear hK K HR HKK
    refine tr_oneE fun K hK => ?_
    simp only [sel,ZmC,ZmN,ZgS,ZgZ]
    refine wpQuiet_nil ?_
    obtain ⟨y',cy,u5,hr,hcs,hkk⟩ := HC4.out.appB HSB.out.1 HSB.out.2 cB (by have := HGD.out.n;omega) (by have := HGD.out.n;omega)
    have HR := hid hr
    have HKK := hid hkk
    have HC5 := hid hcs
    clear hr hcs hkk
    go_wp2_with (at_builtin;refine Lib.wpList_append_run _ rfl _ _ _ _ rfl _ _ rfl rfl _ _ (HR.out _) ?_)
    refine norm_up (hK _ _ (Lr_early (by decide) HKK.out) ?_)
    clear hK K HR HKK
    refine tr_oneE fun K hK => ?_
    simp only [sel,ZmC,ZmN,ZgS,ZgZ]
    repeat (go_big_quiet_step (fail))
    refine wpQuiet_nil ?_
    have HFIN := hid (HC5.out.fin (H := a.H))
    have hbd := HC5.out.D (by omega)
    have d0 := hbd.cell 0
    have d1 := hbd.cell 1
    have d2 := hbd.cell 2
    have df := hbd.frozen
    simp only [ZeZ,ZeS] at d0 d1 d2
    have HLD : Hid (b0 ≤ d) := (HC5.out.ld (by omega)).1
    have hks := ((kept_set u5 d 0 (.slice (some ⟨x',0,none⟩) a.n cx)).trans (kept_set _ d 1 (.slice (some ⟨y',0,none⟩) a.n cy))).trans (kept_set _ d 2 (.slice none 0 0))
    have HSZF : Hid (u5.heap.size ≤ (((u5.setCell ⟨d,0,none⟩ (.slice (some ⟨x',0,none⟩) a.n cx)).setCell ⟨d,1,none⟩ (.slice (some ⟨y',0,none⟩) a.n cy)).setCell ⟨d,2,none⟩ (.slice none 0 0)).heap.size) := hks.size
    have HKS := hid hks
    clear hbd hks
    go_wp2
    refine norm_up (hK _ _ (Lr_early (by decide) (HKS.out.mono fun k _ e => by have e : k = d := e;have := HLD.out;show b0 ≤ k;omega)) ?_)
    clear hK K d0 d1 d2 df
    refine tr_last (e := true) fun K hK => ?_
    simp only [sel,List.map_nil]
    refine wpQuiet_nil (hK _ ?_)
    clear hK K
    go_wp2
    go_meet
    exact ⟨_,rfl,_,_,_,HFIN.out.1,HFIN.out.2,HSZF.out⟩
  ·clear hK1 hK2 K1 K2 q0 q1
   go_wp2
   refine norm_up (hK3 _ _ (Lr_early (by decide) ((Kept.refl _ _).alloc _)) ?_)
   clear hK3 K3
   have HC1 := hid HCS.out.newD
   generalize wd.alloc (.cells #[.slice none 0 0,.slice none 0 0,.slice none 0 0] 50) = u1 at HC1 ⊢
   obtain ⟨d,hd⟩ : ∃ d,d = wd.heap.size := ⟨_,rfl⟩
   rw [← hd] at HC1 ⊢
   clear hd
   refine tr_twoE fun K1 hK1 K2 hK2 => ?_
   simp only [sel,ZmC,ZmN,ZgS,ZgZ]
   refine wpQuiet_nil ⟨?_,?_⟩
   ·clear hK2 K2
    go_wp2
    refine norm_up (hK1 _ _ (Lr_early (by decide) ((Kept.refl _ _).alloc _)) ?_)
    clear hK1 K1
    have HC2 := hid HC1.out.newT
    generalize u1.alloc (.cells #[] 4) = u2 at HC2 ⊢
    obtain ⟨x,hx⟩ : ∃ x,x = u1.heap.size := ⟨_,rfl⟩
    rw [← hx] at HC2 ⊢
    clear hx
    refine tr_twoE fun K1 hK1 K2 hK2 => ?_
    simp only [sel,ZmC,ZmN,ZgS,ZgZ]
    refine wpQuiet_nil ⟨?_,?_⟩
    ·clear hK2 K2
     obtain ⟨x',cx,u3,hr,hcs,hkk⟩ := HC2.out.appT HST.out.1 HST.out.2 cT (by have := HGD.out.n;omega) (by have := HGD.out.n;omega)
     have HR := hid hr
     have HKK := hid hkk
     have HC3 := hid hcs
     clear hr hcs hkk
     go_wp2_with (at_builtin;refine Lib.wpList_append_run _ rfl _ _ _ _ rfl _ _ rfl rfl _ _ (HR.out _) ?_)
     refine norm_up (hK1 _ _ (Lr_early (by decide) HKK.out) ?_)
     clear hK1 K1 HR HKK
     refine tr_oneE fun K hK => ?_
     simp only [sel,ZmC,ZmN,ZgS,ZgZ]
     refine wpQuiet_nil ?_
     go_wp2
     refine norm_up (hK _ _ (Lr_early (by decide) ((Kept.refl _ _).alloc _)) ?_)
     clear hK K
     have HC4 := hid HC3.out.newB
     generalize u3.alloc (.cells #[] 9) = u4 at HC4 ⊢
     obtain ⟨y,hy⟩ : ∃ y,y = u3.heap.size := ⟨_,rfl⟩
     rw [← hy] at HC4 ⊢
     clear hy
     refine tr_oneE fun K hK => ?_
     simp only [sel,ZmC,ZmN,ZgS,ZgZ]
     refine wpQuiet_nil ?_
     obtain ⟨y',cy,u5,hr,hcs,hkk⟩ := HC4.out.appB HSB.out.1 HSB.out.2 cB (by have := HGD.out.n;omega) (by have := HGD.out.n;omega)
     have HR := hid hr
     have HKK := hid hkk
     have HC5 := hid hcs
     clear hr hcs hkk
     go_wp2_with (at_builtin;refine Lib.wpList_append_run _ rfl _ _ _ _ rfl _ _ rfl rfl _ _ (HR.out _) ?_)
     refine norm_up (hK _ _ (Lr_early (by decide) HKK.out) ?_)
     clear hK K HR HKK
     refine tr_oneE fun K hK => ?_
     simp only [sel,ZmC,ZmN,ZgS,ZgZ]
     repeat (go_big_quiet_step (fail))
     refine wpQuiet_nil ?_
     have HFIN := hid (HC5.out.fin (H := a.H))
     have hbd := HC5.out.D (by omega)
     have d0 := hbd.cell 0
     have d1 := hbd.cell 1
     have d2 := hbd.cell 2
     have df := hbd.frozen
     simp only [ZeZ,ZeS] at d0 d1 d2
     have HLD : Hid (b0 ≤ d) := (HC5.out.ld (by omega)).1
     have hks := ((kept_set u5 d 0 (.slice (some ⟨x',0,none⟩) a.n cx)).trans (kept_set _ d 1 (.slice (some ⟨y',0,none⟩) a.n cy))).trans (kept_set _ d 2 (.slice none 0 0))
     have HSZF : Hid (u5.heap.size ≤ (((u5.setCell ⟨d,0,none⟩ (.slice (some ⟨x',0,none⟩) a.n cx)).setCell ⟨d,1,none⟩ (.slice (some ⟨y',0,none⟩) a.n cy)).setCell ⟨d,2,none⟩ (.slice none 0 0)).heap.size) := hks.size
     have HKS := hid hks
     clear hbd hks
     go_wp2
     refine norm_up (hK _ _ (Lr_early (by decide) (HKS.out.mono fun k _ e => by have e : k = d := e;have := HLD.out;show b0 ≤ k;omega)) ?_)
     clear hK K d0 d1 d2 df
     refine tr_last (e := true) fun K hK => ?_
     simp only [sel,List.map_nil]
     refine wpQuiet_nil (hK _ ?_)
     clear hK K
     go_wp2
     go_meet
     exact ⟨_,rfl,_,_,_,HFIN.out.1,HFIN.out.2,HSZF.out⟩
    ·clear hK1 K1
     go_wp2
     refine norm_up (hK2 _ _ (Lr_early (by decide) ((Kept.refl _ _).alloc _)) ?_)
     clear hK2 K2
     have HC3 := hid HC2.out.newB
     generalize u2.alloc (.cells #[] 9) = u3 at HC3 ⊢
     obtain ⟨y,hy⟩ : ∃ y,y = u2.heap.size := ⟨_,rfl⟩
     rw [← hy] at HC3 ⊢
     clear hy
     refine tr_oneE fun K hK => ?_
     simp only [sel,ZmC,ZmN,ZgS,ZgZ]
     refine wpQuiet_nil ?_
     obtain ⟨x',cx,u4,hr,hcs,hkk⟩ := HC3.out.appT HST.out.1 HST.out.2 cT (by have := HGD.out.n;omega) (by have := HGD.out.n;omega)
     have HR := hid hr
     have HKK := hid hkk
     have HC4 := hid hcs
     clear hr hcs hkk
     go_wp2_with (at_builtin;refine Lib.wpList_append_run _ rfl _ _ _ _ rfl _ _ rfl rfl _ _ (HR.out _) ?_)
     refine norm_up (hK _ _ (Lr_early (by decide) HKK.out) ?_)
     clear hK K HR HKK
     refine tr_oneE fun K hK => ?_
     simp only [sel,ZmC,ZmN,ZgS,ZgZ]
     refine wpQuiet_nil ?_
     obtain ⟨y',cy,u5,hr,hcs,hkk⟩ := HC4.out.appB HSB.out.1 HSB.out.2 cB (by have := HGD.out.n;omega) (by have := HGD.out.n;omega)
     have HR := hid hr
     have HKK := hid hkk
     have HC5 := hid hcs
     clear hr hcs hkk
     go_wp2_with (at_builtin;refine Lib.wpList_append_run _ rfl _ _ _ _ rfl _ _ rfl rfl _ _ (HR.out _) ?_)
     refine norm_up (hK _ _ (Lr_early (by decide) HKK.out) ?_)
     clear hK K HR HKK
     refine tr_oneE fun K hK => ?_
     simp only [sel,ZmC,ZmN,ZgS,ZgZ]
     repeat (go_big_quiet_step (fail))
     refine wpQuiet_nil ?_
     have HFIN := hid (HC5.out.fin (H := a.H))
     have hbd := HC5.out.D (by omega)
     have d0 := hbd.cell 0
     have d1 := hbd.cell 1
     have d2 := hbd.cell 2
     have df := hbd.frozen
     simp only [ZeZ,ZeS] at d0 d1 d2
     have HLD : Hid (b0 ≤ d) := (HC5.out.ld (by omega)).1
     have hks := ((kept_set u5 d 0 (.slice (some ⟨x',0,none⟩) a.n cx)).trans (kept_set _ d 1 (.slice (some ⟨y',0,none⟩) a.n cy))).trans (kept_set _ d 2 (.slice none 0 0))
     have HSZF : Hid (u5.heap.size ≤ (((u5.setCell ⟨d,0,none⟩ (.slice (some ⟨x',0,none⟩) a.n cx)).setCell ⟨d,1,none⟩ (.slice (some ⟨y',0,none⟩) a.n cy)).setCell ⟨d,2,none⟩ (.slice none 0 0)).heap.size) := hks.size
     have HKS := hid hks
     clear hbd hks
     go_wp2
     refine norm_up (hK _ _ (Lr_early (by decide) (HKS.out.mono fun k _ e => by have e : k = d := e;have := HLD.out;show b0 ≤ k;omega)) ?_)
     clear hK K d0 d1 d2 df
     refine tr_last (e := true) fun K hK => ?_
     simp only [sel,List.map_nil]
     refine wpQuiet_nil (hK _ ?_)
     clear hK K
     go_wp2
     go_meet
     exact ⟨_,rfl,_,_,_,HFIN.out.1,HFIN.out.2,HSZF.out⟩
   ·clear hK1 K1
    go_wp2
    refine norm_up (hK2 _ _ (Lr_early (by decide) ((Kept.refl _ _).alloc _)) ?_)
    clear hK2 K2
    have HC2 := hid HC1.out.newB
    generalize u1.alloc (.cells #[] 9) = u2 at HC2 ⊢
    obtain ⟨y,hy⟩ : ∃ y,y = u1.heap.size := ⟨_,rfl⟩
    rw [← hy] at HC2 ⊢
    clear hy
    refine tr_oneE fun K hK => ?_
    simp only [sel,List.map_cons,List.map_nil,List.getD_cons_zero]
    refine wpQuiet_nil ?_
    go_wp2
    refine norm_up (hK _ _ (Lr_early (by decide) ((Kept.refl _ _).alloc _)) ?_)
    clear hK K
    have HC3 := hid HC2.out.newT
    generalize u2.alloc (.cells #[] 4) = u3 at HC3 ⊢
    obtain ⟨x,hx⟩ : ∃ x,x = u2.heap.size := ⟨_,rfl⟩
    rw [← hx] at HC3 ⊢
    clear hx
    refine tr_oneE fun K hK => ?_
    simp only [sel,ZmC,ZmN,ZgS,ZgZ]
    refine wpQuiet_nil ?_
    obtain ⟨x',cx,u4,hr,hcs,hkk⟩ := HC3.out.appT HST.out.1 HST.out.2 cT (by have := HGD.out.n;omega) (by have := HGD.out.n;omega)
    have HR := hid hr
    have HKK := hid hkk
    have HC4 := hid hcs
    clear hr hcs hkk
    go_wp2_with (at_builtin;refine Lib.wpList_append_run _ rfl _ _ _ _ rfl _ _ rfl rfl _ _ (HR.out _) ?_)
    refine norm_up (hK _ _ (Lr_early (by decide) HKK.out) ?_)
    clear hK K HR HKK
    refine tr_oneE fun K hK => ?_
    simp only [sel,ZmC,ZmN,ZgS,ZgZ]
    refine wpQuiet_nil ?_
    obtain ⟨y',cy,u5,hr,hcs,hkk⟩ := HC4.out.appB HSB.out.1 HSB.out.2 cB (by have := HGD.out.n;omega) (by have := HGD.out.n;omega)
    have HR := hid hr
    have HKK := hid hkk
    have HC5 := hid hcs
    clear hr hcs hkk
    go_wp2_with (at_builtin;refine Lib.wpList_append_run _ rfl _ _ _ _ rfl _ _ rfl rfl _ _ (HR.out _) ?_)
    refine norm_up (hK _ _ (Lr_early (by decide) HKK.out) ?_)
    clear hK K HR HKK
    refine tr_oneE fun K hK => ?_
    simp only [sel,ZmC,ZmN,ZgS,ZgZ]
    repeat (go_big_quiet_step (fail))
    refine wpQuiet_nil ?_
    have HFIN := hid (HC5.out.fin (H := a.H))
    have hbd := HC5.out.D (by omega)
    have d0 := hbd.cell 0
    have d1 := hbd.cell 1
    have d2 := hbd.cell 2
    have df := hbd.frozen
    simp only [ZeZ,ZeS] at d0 d1 d2
    have HLD : Hid (b0 ≤ d) := (HC5.out.ld (by omega)).1
    have hks := ((kept_set u5 d 0 (.slice (some ⟨x',0,none⟩) a.n cx)).trans (kept_set _ d 1 (.slice (some ⟨y',0,none⟩) a.n cy))).trans (kept_set _ d 2 (.slice none 0 0))
    have HSZF : Hid (u5.heap.size ≤ (((u5.setCell ⟨d,0,none⟩ (.slice (some ⟨x',0,none⟩) a.n cx)).setCell ⟨d,1,none⟩ (.slice (some ⟨y',0,none⟩) a.n cy)).setCell ⟨d,2,none⟩ (.slice none 0 0)).heap.size) := hks.size
    have HKS := hid hks
    clear hbd hks
    go_wp2
    refine norm_up (hK _ _ (Lr_early (by decide) (HKS.out.mono fun k _ e => by have e : k = d := e;have := HLD.out;show b0 ≤ k;omega)) ?_)
    clear hK K d0 d1 d2 df
    refine tr_last (e := true) fun K hK => ?_
    simp only [sel,List.map_nil]
    refine wpQuiet_nil (hK _ ?_)
    clear hK K
    go_wp2
    go_meet
    exact ⟨_,rfl,_,_,_,HFIN.out.1,HFIN.out.2,HSZF.out⟩
 case rest =>
  obtain ⟨d,rfl,hcut0⟩ := hcut
  have HC := hid hcut0
  clear hcut0 hwd
  go_wp2
  go_loopg [4] a.N (fun gx i wr => ∃ k : Nat,k + gx = a.N ∧ i = .int .i64 (k : Int) ∧ C1 wd b0 d a k wr)
  case atStart =>
   obtain ⟨m2,vT,vB,h1,h2,h3⟩ := HC.out
   exact ⟨0,by omega,rfl,_,_,_,_,_,_,h1,h2,h3⟩
  case round =>
   clear HC
   obtain ⟨k,hg,rfl,m2,vT,vB,vH,q,cp,hmk,hgr,hle⟩ := hrel
   have HG := hid hg
   have HMK := hid hmk
   have HGR := hid hgr
   have HLE := hid hle
   clear hg hmk hgr hle
   have hsb := (HS0.out.grow HGD0.out).kept HGR.out (fun (e : b0 ≤ C) => by have := HB00.out;have := HBD.out;omega)
   have HSR := hid hsb
   have s2 := hsb.cell 2
   simp only [ZeZ,ZeS] at s2
   clear hsb
   by_cases hj : k < a.N
   ·have hjz : (k : Int) < (a.N : Int) := by omega
    have HJ := hid hj
    have HSM := hid (HMD.out.kept HGR.out (fun k (e : k < C) e2 => by have e2 : b0 ≤ k := e2;have := HB00.out;have := HBD.out;omega))
    obtain ⟨AH',kH,rfl⟩ := PmR.os_form HMK.out.H.out
    clear hj
    have HD2 := hid (HMK.out.grow (Kept.drew' (F := fun _ => False) wr))
    have HSD := hid (HSM.out.kept (Kept.drew' (F := fun _ => False) wr) fun _ _ x => x)
    have HKD : Hid (Kept (b0 ≤ ·) wd wr.drew) := HGR.out.drew
    have HLW : Hid (m2 ≤ wr.drew.heap.size) := HLE.out
    obtain ⟨b2,hb2⟩ : ∃ b2,b2 = wr.drew.heap.size := ⟨_,rfl⟩
    have HB2 := hid hb2
    clear hb2
    have HND : Hid (∀ x,x < b2 → x < m2 → ¬ ((Value.slice AH' k kH).ownBlock = some x ∨ b2 ≤ x)) := fun x h1 h2 e => by
     rcases e with e | e
     ·have h3 : m2 ≤ x := (os_in HMK.out.H.out e).1
      omega
     ·omega
    have HLC : Hid (C < m2 ∧ C < b2 ∧ d < m2 ∧ d < b2 ∧ gH < m2 ∧ gH < b2 ∧ q0 k < m2 ∧ q0 k < b2) := by
     have h1 := HMK.out.bd
     have h2 : gH < C := HMD.out.inG.2.2
     have h3 : q0 k < C := HMD.out.qG k HJ.out
     have := HLW.out
     have := HB2.out
     have := HB00.out
     have := HBD.out
     show _ ∧ _
     omega
    have q0' := up_cell (F := fun x => (Value.slice AH' k kH).ownBlock = some x ∨ b2 ≤ x) (w := wr.drew) (p := ⟨d,2,none⟩) (HD2.out.bx.cell 2) (HND.out d (by have := HLC.out;omega) (by have := HLC.out;omega))
    have q1' := up_cell (F := fun x => (Value.slice AH' k kH).ownBlock = some x ∨ b2 ≤ x) (w := wr.drew) (p := ⟨C,2,none⟩) (HSR.out.drew.cell 2) (HND.out C (by have := HLC.out;omega) (by have := HLC.out;omega))
    have q2' := up_cell (F := fun x => (Value.slice AH' k kH).ownBlock = some x ∨ b2 ≤ x) (w := wr.drew) (p := ⟨gH,k,none⟩) (HSD.out.hb.cell (i := k) (by have := HJ.out;omega)) (HND.out gH (by have := HLC.out;omega) (by have := HLC.out;omega))
    unfold scell at q2'
    go_upto_region 5 with (fail)
    clear s2
    refine wp_region_tree (Kept fun x => (Value.slice AH' k kH).ownBlock = some x ∨ b2 ≤ x) (Kept fun x => ((Value.slice AH' k kH).ownBlock = some x ∨ b2 ≤ x) ∨ x = d) (kept_refl _) (kept_trans _) (kept_refl _) (kept_trans _) (fun _ _ h => h.mono fun _ _ x => .inl x) [12]
     (.one true [0,1,3,4,5,6,7] 2 (.one true [] 8 (.one true [] 9 (.one true [] 10 (.one false [11] 12 (.last false [])))))) (by kernel_rfl) (by kernel_rfl) ?_
    generalize wr.drew = wz at HD2 HSD HKD HLW HB2 q0' q1' q2' ⊢
    obtain ⟨v2,x2,hr2,ho2,hv2,hg2,hk2⟩ := MdCl.clone_run2 (P := Tryz.prog) (w := wz) (n := 6) (f := hcell (a.H k)) 33 3 _ 8 Tryz.underlying33 PmK.infoclone_ints rfl (by omega) ⟨q0 k,0,none⟩ (fun _ => ⟨q0 k,0,rfl,fun y hy => by rw [Nat.zero_add];exact hcell_get (HSD.out.rb k HJ.out) hy⟩) (fun _ _ => rfl) (p0 k) (by omega)
    obtain ⟨r,cr,rfl,hor,hrin⟩ := ho2.form (by omega)
    have HR2 := hid hr2
    have HOR := hid hor
    have HRI : Hid (wz.heap.size ≤ r) := hrin
    have HG2 := hid hg2
    have HK2 := hid hk2
    clear hk2 hr2 ho2 hv2 hg2 hor hrin
    refine tr_oneE fun K hK => ?_
    simp only [sel,ZmC,ZmN,ZgS,ZgZ]
    repeat (go_big_quiet_step (fail))
    refine wpQuiet_nil ?_
    clear q0' q1' q2'
    go_wp2
    refine norm_up (hK _ _ (Lr_early (by decide) ((Kept.refl _ _).alloc _)) ?_)
    clear hK K
    refine tr_oneE fun K hK => ?_
    simp only [sel,ZmC,ZmN,ZgS,ZgZ]
    refine wpQuiet_nil ?_
    go_wp2_with (at_builtin;refine Lib.wpList_append_run _ rfl _ _ _ _ rfl _ _ rfl rfl _ _ (HR2.out _) ?_)
    refine norm_up (hK _ _ (Lr_early (by decide) (HK2.out.mono fun k _ (e : k = wz.heap.size) => .inr (by have := HB2.out;show b2 ≤ k;omega))) ?_)
    clear hK K
    refine tr_oneE fun K hK => ?_
    simp only [sel,ZmC,ZmN,ZgS,ZgZ]
    refine wpQuiet_nil ?_
    go_wp2
    refine norm_up (hK _ _ (Lr_early (by decide) ((Kept.refl _ _).alloc _)) ?_)
    clear hK K
    have HX3 : Hid ((x2.alloc (.cells #[.slice (some ⟨r,0,none⟩) 6 cr] 33)).cell? ⟨x2.heap.size,0,none⟩ = some (.slice (some ⟨r,0,none⟩) 6 cr)) := cell_new1 _ _ _
    have HG3 : Hid (Grow wz (x2.alloc (.cells #[.slice (some ⟨r,0,none⟩) 6 cr] 33))) := HG2.out.alloc _
    have HO3 := hid (HOR.out.kept ((Kept.refl (fun _ => False) x2).alloc (.cells #[.slice (some ⟨r,0,none⟩) 6 cr] 33)) id)
    generalize x2.alloc (.cells #[.slice (some ⟨r,0,none⟩) 6 cr] 33) = x3 at HX3 HG3 HO3 ⊢
    have HM3 := hid (HD2.out.grow HG3.out)
    obtain ⟨g4,cap4,x4,hr4,ho4,hk4,hb4⟩ := Gr.app HM3.out.H (by have := HJ.out;have := HGD.out.N;omega) HX3.out
    obtain ⟨hm5,hk5,hbx⟩ := HM3.out.push (by have := HLW.out;have := HG3.out.size;omega) HO3.out (by have := HRI.out;have := HLW.out;omega) (fun i hi e => by have := (HD2.out.H.row i hi).lt;have := HRI.out;omega) (fun e => by have := (os_in HD2.out.H.out e).2;have := HRI.out;omega) ho4 hk4 hb4
    have HR4 := hid hr4
    have HK4 := hid hk4
    have HM5 := hid hm5
    have HK5 := hid hk5
    have HSZ5 : Hid (m2 ≤ (x4.setCell ⟨d,2,none⟩ (.slice (some ⟨g4,0,none⟩) (k + 1) cap4)).heap.size) := by have := hk5.size;have := HLW.out;have := HG3.out.size;show _ ≤ _;omega
    have c4 := hbx.cell 2
    have f4 := hbx.frozen 2
    simp only [ZeZ,ZeS] at c4
    clear hr4 ho4 hk4 hb4 hm5 hk5 hbx
    refine tr_oneE fun K hK => ?_
    simp only [sel,ZmC,ZmN,ZgS,ZgZ]
    refine wpQuiet_nil ?_
    go_wp2_with (at_builtin;refine Lib.wpList_append_run _ rfl _ _ _ _ rfl _ _ rfl rfl _ _ (HR4.out _) ?_)
    refine norm_up (hK _ _ (Lr_early (by decide) (HK4.out.mono fun k _ e => .inl e)) ?_)
    clear hK K
    refine tr_oneL fun K hK => ?_
    simp only [sel,ZmC,ZmN,ZgS,ZgZ]
    repeat (go_big_quiet_step (fail))
    refine wpQuiet_nil ?_
    go_wp2
    refine norm_up (hK _ _ (Lr_late (by decide) ((kept_set _ _ _ _).mono fun k _ e => .inr e)) ?_)
    clear hK K c4 f4
    refine tr_lastL fun K hK => ?_
    simp only [sel,List.map_nil]
    refine wpQuiet_nil (hK _ ?_)
    clear hK K
    go_wp2
    go_roundg (gk - 1)
    case measure => have := HG.out;have := HJ.out;omega
    case rel => exact ⟨k + 1,by have := HG.out;have := HJ.out;omega,by go_num,_,_,_,_,_,_,HM5.out,(HKD.out.trans (Grow.kept HG3.out)).trans HK5.out,HSZ5.out⟩
   ·obtain rfl : k = a.N := by have := HG.out;omega
    clear hj HG
    obtain ⟨AT',kT,rfl⟩ := PmR.os_form HMK.out.T
    obtain ⟨AB',kB,rfl⟩ := PmR.os_form HMK.out.B
    obtain ⟨AH',kH,rfl⟩ := PmR.os_form HMK.out.H.out
    have HBR := hid ((HB0.out.grow HGD0.out).kept HGR.out (fun (e : b0 ≤ B) => by have := HB00.out;omega))
    have c0 := HMK.out.bx.cell 0
    have c1 := HMK.out.bx.cell 1
    have c2 := HMK.out.bx.cell 2
    have t0 := HBR.out.cell 0
    have t1 := HBR.out.cell 1
    have t2 := HBR.out.cell 2
    have tf := HBR.out.frozen
    simp only [ZeZ,ZeS] at c0 c1 c2 t0 t1 t2
    go_wp2
    have hb5 := (((HBR.out.set 0 (.slice AT' a.n kT)).set 1 (.slice AB' a.n kB)).set 2 (.slice AH' a.N kH))
    have hk5 : Kept (fun x => x = B) wr (((wr.setCell ⟨B,0,none⟩ (.slice AT' a.n kT)).setCell ⟨B,1,none⟩ (.slice AB' a.n kB)).setCell ⟨B,2,none⟩ (.slice AH' a.N kH)) := ((kept_set wr B 0 _).trans (kept_set _ B 1 _)).trans (kept_set _ B 2 _)
    rw [HPP.out]
    have hpa : SAt wr (b0 ≤ ·) (.agg #[(.slice AT' a.n kT),(.slice AB' a.n kB),(.slice AH' a.N kH)]) ⟨a.n,a.N,a.T,a.B,a.H⟩ := HMK.out.at HGD.out
    exact ret_S rfl rfl hb5 rfl ⟨_,rfl,(hpa.kept hk5 fun x (hx : b0 ≤ x) e => by have e : x = B := e;have := HB00.out;omega).mono (fun x _ (hx : b0 ≤ x) => by have := HB00.out;have := HBD.out;show w.heap.size ≤ x;omega),((HG0.out.trans HGD0.out).then HGR.out fun x hx (e : b0 ≤ x) => by have := HB00.out;have := HBD.out;omega).then hk5 fun x hx (e : x = B) => by have := HBD.out;omega⟩
end
end MdCopy
namespace MdE
open Go.ChangeShapes Go.WideShapes Go.ChangeAt Go.RowKit
open Mem Blk Cells Orow GrC Txt MdM MdC MdR MdD Stages Trees
open HdM (lst hnd cnt sum lst_eq hnd_at hnd_none hnd_cases cnt_yes cnt_no cnt_le sum_le)
section
variable {w : World} {G : Nat → Prop} {gT cT gB cB gH cH : Nat} {q cp : Nat → Nat} {a : Md} {o : MdOp} {D : Option Addr} {dl dc : Nat}
set_option maxHeartbeats 4000000 in
set_option maxRecDepth 100000 in
theorem do_c0 (hm : SM w G gT cT gB cB gH cH q cp a) (hg : MdM.Good a) (hlt : ∀ k,G k → k < w.heap.size) (hd : Sl w w.heap.size .u8 D dl o.d) (c : Int) (h : c < 0) :
  Calls Tryz.prog 53 #[sval gT cT gB cB gH cH a,.int .i64 c,.agg #[.int .i64 o.k,.int .i64 o.p,.int .i64 o.h,.int .i64 o.o,.int .i64 o.n,.slice D dl dc]] w (DoPost G (sval gT cT gB cB gH cH a) w (err 1,a)) := by
 have HB := hid (bx_new (dc := dc) hm hlt hd)
 have HGD := hid hg
 obtain ⟨P,hP⟩ : ∃ P,P = DoPost G (sval gT cT gB cB gH cH a) w (err 1,a) := ⟨_,rfl⟩
 have HP := hid hP
 rw [← hP]
 clear hm hg hlt hd hP
 go_enter Tryz.func53,Tryz.ntmps53
 go_upto_region 1 with (fail)
 generalize ((w.alloc (.cells #[.slice (some ⟨gT,0,none⟩) a.n cT,.slice (some ⟨gB,0,none⟩) a.n cB,.slice (some ⟨gH,0,none⟩) a.N cH] 50)).alloc (.cells #[.int .i64 o.k,.int .i64 o.p,.int .i64 o.h,.int .i64 o.o,.int .i64 o.n,.slice D dl dc] 30)).alloc (.cells #[.int .i64 0,.int .i64 0,.int .i64 0,.slice none 0 0] 27) = w0 at HB ⊢
 generalize w.heap.size = s at HB ⊢
 have s0 := HB.out.s0
 have s1 := HB.out.s1
 have s2 := HB.out.s2
 have o0 := HB.out.o0
 have o1 := HB.out.o1
 have o2 := HB.out.o2
 have o3 := HB.out.o3
 have o4 := HB.out.o4
 have o5 := HB.out.o5
 go_wp2_with (go_at_call 65;(with_reducible refine (fail_any _ 1).mono ?_);rintro e wf ⟨rfl,hgf⟩;obtain ⟨t0,t1,t2,t3,tf⟩ := HB.out.res (hgf);have HGF := hid (hgf);clear hgf)
 rw [HP.out]
 exact ret_res rfl rfl (HB.out.bad HGD.out HGF.out 1).1 rfl (HB.out.bad HGD.out HGF.out 1).2
set_option maxHeartbeats 4000000 in
set_option maxRecDepth 100000 in
theorem do_c1 (hm : SM w G gT cT gB cB gH cH q cp a) (hg : MdM.Good a) (hlt : ∀ k,G k → k < w.heap.size) (hd : Sl w w.heap.size .u8 D dl o.d) (c : Int) (h0 : 0 ≤ c) (h : (a.N : Int) ≤ c) :
  Calls Tryz.prog 53 #[sval gT cT gB cB gH cH a,.int .i64 c,.agg #[.int .i64 o.k,.int .i64 o.p,.int .i64 o.h,.int .i64 o.o,.int .i64 o.n,.slice D dl dc]] w (DoPost G (sval gT cT gB cB gH cH a) w (err 1,a)) := by
 have HB := hid (bx_new (dc := dc) hm hlt hd)
 have HGD := hid hg
 obtain ⟨P,hP⟩ : ∃ P,P = DoPost G (sval gT cT gB cB gH cH a) w (err 1,a) := ⟨_,rfl⟩
 have HP := hid hP
 rw [← hP]
 clear hm hg hlt hd hP
 go_enter Tryz.func53,Tryz.ntmps53
 go_upto_region 1 with (fail)
 generalize ((w.alloc (.cells #[.slice (some ⟨gT,0,none⟩) a.n cT,.slice (some ⟨gB,0,none⟩) a.n cB,.slice (some ⟨gH,0,none⟩) a.N cH] 50)).alloc (.cells #[.int .i64 o.k,.int .i64 o.p,.int .i64 o.h,.int .i64 o.o,.int .i64 o.n,.slice D dl dc] 30)).alloc (.cells #[.int .i64 0,.int .i64 0,.int .i64 0,.slice none 0 0] 27) = w0 at HB ⊢
 generalize w.heap.size = s at HB ⊢
 have s0 := HB.out.s0
 have s1 := HB.out.s1
 have s2 := HB.out.s2
 have o0 := HB.out.o0
 have o1 := HB.out.o1
 have o2 := HB.out.o2
 have o3 := HB.out.o3
 have o4 := HB.out.o4
 have o5 := HB.out.o5
 go_wp2_with (go_at_call 65;(with_reducible refine (fail_any _ 1).mono ?_);rintro e wf ⟨rfl,hgf⟩;obtain ⟨t0,t1,t2,t3,tf⟩ := HB.out.res (hgf);have HGF := hid (hgf);clear hgf)
 rw [HP.out]
 exact ret_res rfl rfl (HB.out.bad HGD.out HGF.out 1).1 rfl (HB.out.bad HGD.out HGF.out 1).2
set_option maxHeartbeats 4000000 in
set_option maxRecDepth 100000 in
theorem do_k0 (hm : SM w G gT cT gB cB gH cH q cp a) (hg : MdM.Good a) (hlt : ∀ k,G k → k < w.heap.size) (hd : Sl w w.heap.size .u8 D dl o.d) (kc : Nat) (hkc : (kc : Int) < (a.N : Int)) (h : o.k < 1) :
  Calls Tryz.prog 53 #[sval gT cT gB cB gH cH a,.int .i64 (kc : Int),.agg #[.int .i64 o.k,.int .i64 o.p,.int .i64 o.h,.int .i64 o.o,.int .i64 o.n,.slice D dl dc]] w (DoPost G (sval gT cT gB cB gH cH a) w (err 1,a)) := by
 have HB := hid (bx_new (dc := dc) hm hlt hd)
 have HGD := hid hg
 obtain ⟨P,hP⟩ : ∃ P,P = DoPost G (sval gT cT gB cB gH cH a) w (err 1,a) := ⟨_,rfl⟩
 have HP := hid hP
 rw [← hP]
 clear hm hg hlt hd hP
 go_enter Tryz.func53,Tryz.ntmps53
 go_upto_region 1 with (fail)
 generalize ((w.alloc (.cells #[.slice (some ⟨gT,0,none⟩) a.n cT,.slice (some ⟨gB,0,none⟩) a.n cB,.slice (some ⟨gH,0,none⟩) a.N cH] 50)).alloc (.cells #[.int .i64 o.k,.int .i64 o.p,.int .i64 o.h,.int .i64 o.o,.int .i64 o.n,.slice D dl dc] 30)).alloc (.cells #[.int .i64 0,.int .i64 0,.int .i64 0,.slice none 0 0] 27) = w0 at HB ⊢
 generalize w.heap.size = s at HB ⊢
 have s0 := HB.out.s0
 have s1 := HB.out.s1
 have s2 := HB.out.s2
 have o0 := HB.out.o0
 have o1 := HB.out.o1
 have o2 := HB.out.o2
 have o3 := HB.out.o3
 have o4 := HB.out.o4
 have o5 := HB.out.o5
 go_wp2_with (go_at_call 65;(with_reducible refine (fail_any _ 1).mono ?_);rintro e wf ⟨rfl,hgf⟩;obtain ⟨t0,t1,t2,t3,tf⟩ := HB.out.res (hgf);have HGF := hid (hgf);clear hgf)
 rw [HP.out]
 exact ret_res rfl rfl (HB.out.bad HGD.out HGF.out 1).1 rfl (HB.out.bad HGD.out HGF.out 1).2
set_option maxHeartbeats 4000000 in
set_option maxRecDepth 100000 in
theorem do_k9 (hm : SM w G gT cT gB cB gH cH q cp a) (hg : MdM.Good a) (hlt : ∀ k,G k → k < w.heap.size) (hd : Sl w w.heap.size .u8 D dl o.d) (kc : Nat) (hkc : (kc : Int) < (a.N : Int)) (h : 8 < o.k) :
  Calls Tryz.prog 53 #[sval gT cT gB cB gH cH a,.int .i64 (kc : Int),.agg #[.int .i64 o.k,.int .i64 o.p,.int .i64 o.h,.int .i64 o.o,.int .i64 o.n,.slice D dl dc]] w (DoPost G (sval gT cT gB cB gH cH a) w (err 1,a)) := by
 have HB := hid (bx_new (dc := dc) hm hlt hd)
 have HGD := hid hg
 obtain ⟨P,hP⟩ : ∃ P,P = DoPost G (sval gT cT gB cB gH cH a) w (err 1,a) := ⟨_,rfl⟩
 have HP := hid hP
 rw [← hP]
 clear hm hg hlt hd hP
 go_enter Tryz.func53,Tryz.ntmps53
 go_upto_region 1 with (fail)
 generalize ((w.alloc (.cells #[.slice (some ⟨gT,0,none⟩) a.n cT,.slice (some ⟨gB,0,none⟩) a.n cB,.slice (some ⟨gH,0,none⟩) a.N cH] 50)).alloc (.cells #[.int .i64 o.k,.int .i64 o.p,.int .i64 o.h,.int .i64 o.o,.int .i64 o.n,.slice D dl dc] 30)).alloc (.cells #[.int .i64 0,.int .i64 0,.int .i64 0,.slice none 0 0] 27) = w0 at HB ⊢
 generalize w.heap.size = s at HB ⊢
 have s0 := HB.out.s0
 have s1 := HB.out.s1
 have s2 := HB.out.s2
 have o0 := HB.out.o0
 have o1 := HB.out.o1
 have o2 := HB.out.o2
 have o3 := HB.out.o3
 have o4 := HB.out.o4
 have o5 := HB.out.o5
 have hk1 : 1 ≤ o.k := by omega
 go_wp2_with (go_at_call 65;(with_reducible refine (fail_any _ 1).mono ?_);rintro e wf ⟨rfl,hgf⟩;obtain ⟨t0,t1,t2,t3,tf⟩ := HB.out.res (hgf);have HGF := hid (hgf);clear hgf)
 rw [HP.out]
 exact ret_res rfl rfl (HB.out.bad HGD.out HGF.out 1).1 rfl (HB.out.bad HGD.out HGF.out 1).2
set_option maxHeartbeats 4000000 in
set_option maxRecDepth 100000 in
theorem do_p0 (hm : SM w G gT cT gB cB gH cH q cp a) (hg : MdM.Good a) (hlt : ∀ k,G k → k < w.heap.size) (hd : Sl w w.heap.size .u8 D dl o.d) (kc : Nat) (hkc : (kc : Int) < (a.N : Int)) (hk : o.k = 2 ∨ o.k = 6 ∨ o.k = 8) (h : o.p < 0) :
  Calls Tryz.prog 53 #[sval gT cT gB cB gH cH a,.int .i64 (kc : Int),.agg #[.int .i64 o.k,.int .i64 o.p,.int .i64 o.h,.int .i64 o.o,.int .i64 o.n,.slice D dl dc]] w (DoPost G (sval gT cT gB cB gH cH a) w (err 1,a)) := by
 have HB := hid (bx_new (dc := dc) hm hlt hd)
 have HGD := hid hg
 obtain ⟨P,hP⟩ : ∃ P,P = DoPost G (sval gT cT gB cB gH cH a) w (err 1,a) := ⟨_,rfl⟩
 have HP := hid hP
 rw [← hP]
 have HYhk := hid hk
 clear hk
 clear hm hg hlt hd hP
 go_enter Tryz.func53,Tryz.ntmps53
 go_upto_region 1 with (fail)
 generalize ((w.alloc (.cells #[.slice (some ⟨gT,0,none⟩) a.n cT,.slice (some ⟨gB,0,none⟩) a.n cB,.slice (some ⟨gH,0,none⟩) a.N cH] 50)).alloc (.cells #[.int .i64 o.k,.int .i64 o.p,.int .i64 o.h,.int .i64 o.o,.int .i64 o.n,.slice D dl dc] 30)).alloc (.cells #[.int .i64 0,.int .i64 0,.int .i64 0,.slice none 0 0] 27) = w0 at HB ⊢
 generalize w.heap.size = s at HB ⊢
 have s0 := HB.out.s0
 have s1 := HB.out.s1
 have s2 := HB.out.s2
 have o0 := HB.out.o0
 have o1 := HB.out.o1
 have o2 := HB.out.o2
 have o3 := HB.out.o3
 have o4 := HB.out.o4
 have o5 := HB.out.o5
 have hk := HYhk.out
 rcases hk with hk | hk | hk
 all_goals
  rw [hk] at o0
  go_wp2_with (go_at_call 65;(with_reducible refine (fail_any _ 1).mono ?_);rintro e wf ⟨rfl,hgf⟩;obtain ⟨t0,t1,t2,t3,tf⟩ := HB.out.res (hgf);have HGF := hid (hgf);clear hgf)
  rw [HP.out]
  exact ret_res rfl rfl (HB.out.bad HGD.out HGF.out 1).1 rfl (HB.out.bad HGD.out HGF.out 1).2
set_option maxHeartbeats 4000000 in
set_option maxRecDepth 100000 in
theorem do_p1 (hm : SM w G gT cT gB cB gH cH q cp a) (hg : MdM.Good a) (hlt : ∀ k,G k → k < w.heap.size) (hd : Sl w w.heap.size .u8 D dl o.d) (kc : Nat) (hkc : (kc : Int) < (a.N : Int)) (hk : o.k = 2 ∨ o.k = 6 ∨ o.k = 8) (h0 : 0 ≤ o.p) (h : (a.n : Int) ≤ o.p) :
  Calls Tryz.prog 53 #[sval gT cT gB cB gH cH a,.int .i64 (kc : Int),.agg #[.int .i64 o.k,.int .i64 o.p,.int .i64 o.h,.int .i64 o.o,.int .i64 o.n,.slice D dl dc]] w (DoPost G (sval gT cT gB cB gH cH a) w (err 1,a)) := by
 have HB := hid (bx_new (dc := dc) hm hlt hd)
 have HGD := hid hg
 obtain ⟨P,hP⟩ : ∃ P,P = DoPost G (sval gT cT gB cB gH cH a) w (err 1,a) := ⟨_,rfl⟩
 have HP := hid hP
 rw [← hP]
 have HYhk := hid hk
 clear hk
 clear hm hg hlt hd hP
 go_enter Tryz.func53,Tryz.ntmps53
 go_upto_region 1 with (fail)
 generalize ((w.alloc (.cells #[.slice (some ⟨gT,0,none⟩) a.n cT,.slice (some ⟨gB,0,none⟩) a.n cB,.slice (some ⟨gH,0,none⟩) a.N cH] 50)).alloc (.cells #[.int .i64 o.k,.int .i64 o.p,.int .i64 o.h,.int .i64 o.o,.int .i64 o.n,.slice D dl dc] 30)).alloc (.cells #[.int .i64 0,.int .i64 0,.int .i64 0,.slice none 0 0] 27) = w0 at HB ⊢
 generalize w.heap.size = s at HB ⊢
 have s0 := HB.out.s0
 have s1 := HB.out.s1
 have s2 := HB.out.s2
 have o0 := HB.out.o0
 have o1 := HB.out.o1
 have o2 := HB.out.o2
 have o3 := HB.out.o3
 have o4 := HB.out.o4
 have o5 := HB.out.o5
 have hk := HYhk.out
 rcases hk with hk | hk | hk
 all_goals
  rw [hk] at o0
  go_wp2_with (go_at_call 65;(with_reducible refine (fail_any _ 1).mono ?_);rintro e wf ⟨rfl,hgf⟩;obtain ⟨t0,t1,t2,t3,tf⟩ := HB.out.res (hgf);have HGF := hid (hgf);clear hgf)
  rw [HP.out]
  exact ret_res rfl rfl (HB.out.bad HGD.out HGF.out 1).1 rfl (HB.out.bad HGD.out HGF.out 1).2
set_option maxHeartbeats 4000000 in
set_option maxRecDepth 100000 in
theorem do_p2 (hm : SM w G gT cT gB cB gH cH q cp a) (hg : MdM.Good a) (hlt : ∀ k,G k → k < w.heap.size) (hd : Sl w w.heap.size .u8 D dl o.d) (kc : Nat) (hkc : (kc : Int) < (a.N : Int)) (hk : o.k = 2 ∨ o.k = 6 ∨ o.k = 8) (p : Nat) (hp : o.p = (p : Int)) (hpn : (p : Int) < (a.n : Int)) (hT : a.T p = false) :
  Calls Tryz.prog 53 #[sval gT cT gB cB gH cH a,.int .i64 (kc : Int),.agg #[.int .i64 o.k,.int .i64 o.p,.int .i64 o.h,.int .i64 o.o,.int .i64 o.n,.slice D dl dc]] w (DoPost G (sval gT cT gB cB gH cH a) w (err 2,a)) := by
 have HB := hid (bx_new (dc := dc) hm hlt hd)
 have HGD := hid hg
 obtain ⟨P,hP⟩ : ∃ P,P = DoPost G (sval gT cT gB cB gH cH a) w (err 2,a) := ⟨_,rfl⟩
 have HP := hid hP
 rw [← hP]
 have HPN := hid (show p < a.n by omega)
 have HYhk := hid hk
 clear hk
 have HYhp := hid hp
 clear hp
 have HYhT := hid hT
 clear hT
 clear hm hg hlt hd hP
 go_enter Tryz.func53,Tryz.ntmps53
 go_upto_region 1 with (fail)
 generalize ((w.alloc (.cells #[.slice (some ⟨gT,0,none⟩) a.n cT,.slice (some ⟨gB,0,none⟩) a.n cB,.slice (some ⟨gH,0,none⟩) a.N cH] 50)).alloc (.cells #[.int .i64 o.k,.int .i64 o.p,.int .i64 o.h,.int .i64 o.o,.int .i64 o.n,.slice D dl dc] 30)).alloc (.cells #[.int .i64 0,.int .i64 0,.int .i64 0,.slice none 0 0] 27) = w0 at HB ⊢
 generalize w.heap.size = s at HB ⊢
 have s0 := HB.out.s0
 have s1 := HB.out.s1
 have s2 := HB.out.s2
 have o0 := HB.out.o0
 have o1 := HB.out.o1
 have o2 := HB.out.o2
 have o3 := HB.out.o3
 have o4 := HB.out.o4
 have o5 := HB.out.o5
 have hT := HYhT.out
 have hp := HYhp.out
 have hk := HYhk.out
 rw [hp] at o1
 have tp : w0.cell? ⟨gT,p,none⟩ = some (.bool false) := by
  have := HB.out.sm.tb.cell (i := p) (by have := HPN.out;omega)
  unfold tcell at this
  rw [hT] at this
  exact this
 clear hT hp HYhT HYhp
 rcases hk with hk | hk | hk
 all_goals
  rw [hk] at o0
  go_wp2_with (go_at_call 65;(with_reducible refine (fail_any _ 2).mono ?_);rintro e wf ⟨rfl,hgf⟩;obtain ⟨t0,t1,t2,t3,tf⟩ := HB.out.res (hgf);have HGF := hid (hgf);clear hgf)
  rw [HP.out]
  exact ret_res rfl rfl (HB.out.bad HGD.out HGF.out 2).1 rfl (HB.out.bad HGD.out HGF.out 2).2
set_option maxHeartbeats 4000000 in
set_option maxRecDepth 100000 in
theorem do_h0 (hm : SM w G gT cT gB cB gH cH q cp a) (hg : MdM.Good a) (hlt : ∀ k,G k → k < w.heap.size) (hd : Sl w w.heap.size .u8 D dl o.d) (kc : Nat) (hkc : (kc : Int) < (a.N : Int)) (hk : o.k = 3 ∨ o.k = 4 ∨ o.k = 5) (h : a.held (kc : Int) o.h = -1) :
  Calls Tryz.prog 53 #[sval gT cT gB cB gH cH a,.int .i64 (kc : Int),.agg #[.int .i64 o.k,.int .i64 o.p,.int .i64 o.h,.int .i64 o.o,.int .i64 o.n,.slice D dl dc]] w (DoPost G (sval gT cT gB cB gH cH a) w (err 5,a)) := by
 have HB := hid (bx_new (dc := dc) hm hlt hd)
 have HGD := hid hg
 obtain ⟨P,hP⟩ : ∃ P,P = DoPost G (sval gT cT gB cB gH cH a) w (err 5,a) := ⟨_,rfl⟩
 have HP := hid hP
 rw [← hP]
 have HYhk := hid hk
 clear hk
 have HYh := hid h
 clear h
 clear hm hg hlt hd hP
 go_enter Tryz.func53,Tryz.ntmps53
 go_upto_region 1 with (fail)
 generalize ((w.alloc (.cells #[.slice (some ⟨gT,0,none⟩) a.n cT,.slice (some ⟨gB,0,none⟩) a.n cB,.slice (some ⟨gH,0,none⟩) a.N cH] 50)).alloc (.cells #[.int .i64 o.k,.int .i64 o.p,.int .i64 o.h,.int .i64 o.o,.int .i64 o.n,.slice D dl dc] 30)).alloc (.cells #[.int .i64 0,.int .i64 0,.int .i64 0,.slice none 0 0] 27) = w0 at HB ⊢
 generalize w.heap.size = s at HB ⊢
 have s0 := HB.out.s0
 have s1 := HB.out.s1
 have s2 := HB.out.s2
 have o0 := HB.out.o0
 have o1 := HB.out.o1
 have o2 := HB.out.o2
 have o3 := HB.out.o3
 have o4 := HB.out.o4
 have o5 := HB.out.o5
 have h := HYh.out
 have hk := HYhk.out
 have HHE := hid (held_any (HB.out.sat HGD.out) (kc : Int) o.h)
 rw [h] at HHE
 clear h
 rcases hk with hk | hk | hk
 all_goals
  rw [hk] at o0
  go_wp2_with (first
   | (go_at_call 54;(with_reducible refine HHE.out.mono ?_);rintro e wh ⟨rfl,hgh⟩;have HGH := hid hgh;have s0 := hgh.cellN s0 id;have s1 := hgh.cellN s1 id;have s2 := hgh.cellN s2 id;have o0 := hgh.cellN o0 id;have o2 := hgh.cellN o2 id;have o3 := hgh.cellN o3 id;have o4 := hgh.cellN o4 id;have o5 := hgh.cellN o5 id;clear hgh)
   | (go_at_call 65;(with_reducible refine (fail_any _ 5).mono ?_);rintro e wf ⟨rfl,hgf⟩;obtain ⟨t0,t1,t2,t3,tf⟩ := HB.out.res (HGH.out.trans hgf);have HGF := hid (HGH.out.trans hgf);clear hgf))
  rw [HP.out]
  exact ret_res rfl rfl (HB.out.bad HGD.out HGF.out 5).1 rfl (HB.out.bad HGD.out HGF.out 5).2
set_option maxHeartbeats 4000000 in
set_option maxRecDepth 100000 in
theorem do_7 (hm : SM w G gT cT gB cB gH cH q cp a) (hg : MdM.Good a) (hlt : ∀ k,G k → k < w.heap.size) (hd : Sl w w.heap.size .u8 D dl o.d) (kc : Nat) (hkc : (kc : Int) < (a.N : Int)) (hk : o.k = 7) :
  Calls Tryz.prog 53 #[sval gT cT gB cB gH cH a,.int .i64 (kc : Int),.agg #[.int .i64 o.k,.int .i64 o.p,.int .i64 o.h,.int .i64 o.o,.int .i64 o.n,.slice D dl dc]] w (DoPost G (sval gT cT gB cB gH cH a) w (err 0,a)) := by
 have HB := hid (bx_new (dc := dc) hm hlt hd)
 have HGD := hid hg
 obtain ⟨P,hP⟩ : ∃ P,P = DoPost G (sval gT cT gB cB gH cH a) w (err 0,a) := ⟨_,rfl⟩
 have HP := hid hP
 rw [← hP]
 have HYhk := hid hk
 clear hk
 clear hm hg hlt hd hP
 go_enter Tryz.func53,Tryz.ntmps53
 go_upto_region 1 with (fail)
 generalize ((w.alloc (.cells #[.slice (some ⟨gT,0,none⟩) a.n cT,.slice (some ⟨gB,0,none⟩) a.n cB,.slice (some ⟨gH,0,none⟩) a.N cH] 50)).alloc (.cells #[.int .i64 o.k,.int .i64 o.p,.int .i64 o.h,.int .i64 o.o,.int .i64 o.n,.slice D dl dc] 30)).alloc (.cells #[.int .i64 0,.int .i64 0,.int .i64 0,.slice none 0 0] 27) = w0 at HB ⊢
 generalize w.heap.size = s at HB ⊢
 have s0 := HB.out.s0
 have s1 := HB.out.s1
 have s2 := HB.out.s2
 have o0 := HB.out.o0
 have o1 := HB.out.o1
 have o2 := HB.out.o2
 have o3 := HB.out.o3
 have o4 := HB.out.o4
 have o5 := HB.out.o5
 have hk := HYhk.out
 rw [hk] at o0
 obtain ⟨t0,t1,t2,t3,tf⟩ := HB.out.res (kept_refl _ _)
 go_wp2
 rw [HP.out]
 exact ret_res rfl rfl (HB.out.bad HGD.out (kept_refl _ _) 0).1 rfl (HB.out.bad HGD.out (kept_refl _ _) 0).2
set_option maxHeartbeats 4000000 in
set_option maxRecDepth 100000 in
theorem do_6 (hm : SM w G gT cT gB cB gH cH q cp a) (hg : MdM.Good a) (hlt : ∀ k,G k → k < w.heap.size) (hd : Sl w w.heap.size .u8 D dl o.d) (kc : Nat) (hkc : (kc : Int) < (a.N : Int)) (hk : o.k = 6) (p : Nat) (hp : o.p = (p : Int)) (hpn : (p : Int) < (a.n : Int)) (hT : a.T p = true) :
  Calls Tryz.prog 53 #[sval gT cT gB cB gH cH a,.int .i64 (kc : Int),.agg #[.int .i64 o.k,.int .i64 o.p,.int .i64 o.h,.int .i64 o.o,.int .i64 o.n,.slice D dl dc]] w (DoPost G (sval gT cT gB cB gH cH a) w (err 0,a)) := by
 have HB := hid (bx_new (dc := dc) hm hlt hd)
 have HGD := hid hg
 obtain ⟨P,hP⟩ : ∃ P,P = DoPost G (sval gT cT gB cB gH cH a) w (err 0,a) := ⟨_,rfl⟩
 have HP := hid hP
 rw [← hP]
 have HPN := hid (show p < a.n by omega)
 have HYhk := hid hk
 clear hk
 have HYhp := hid hp
 clear hp
 have HYhT := hid hT
 clear hT
 clear hm hg hlt hd hP
 go_enter Tryz.func53,Tryz.ntmps53
 go_upto_region 1 with (fail)
 generalize ((w.alloc (.cells #[.slice (some ⟨gT,0,none⟩) a.n cT,.slice (some ⟨gB,0,none⟩) a.n cB,.slice (some ⟨gH,0,none⟩) a.N cH] 50)).alloc (.cells #[.int .i64 o.k,.int .i64 o.p,.int .i64 o.h,.int .i64 o.o,.int .i64 o.n,.slice D dl dc] 30)).alloc (.cells #[.int .i64 0,.int .i64 0,.int .i64 0,.slice none 0 0] 27) = w0 at HB ⊢
 generalize w.heap.size = s at HB ⊢
 have s0 := HB.out.s0
 have s1 := HB.out.s1
 have s2 := HB.out.s2
 have o0 := HB.out.o0
 have o1 := HB.out.o1
 have o2 := HB.out.o2
 have o3 := HB.out.o3
 have o4 := HB.out.o4
 have o5 := HB.out.o5
 have hT := HYhT.out
 have hp := HYhp.out
 have hk := HYhk.out
 rw [hk] at o0
 rw [hp] at o1
 have tp : w0.cell? ⟨gT,p,none⟩ = some (.bool true) := by
  have := HB.out.sm.tb.cell (i := p) (by have := HPN.out;omega)
  unfold tcell at this
  rw [hT] at this
  exact this
 clear hT hp HYhT HYhp
 obtain ⟨t0,t1,t2,t3,tf⟩ := HB.out.res (kept_refl _ _)
 go_wp2
 rw [HP.out]
 exact ret_res rfl rfl (HB.out.bad HGD.out (kept_refl _ _) 0).1 rfl (HB.out.bad HGD.out (kept_refl _ _) 0).2
set_option maxHeartbeats 4000000 in
set_option maxRecDepth 100000 in
theorem do_2f (hm : SM w G gT cT gB cB gH cH q cp a) (hg : MdM.Good a) (hlt : ∀ k,G k → k < w.heap.size) (hd : Sl w w.heap.size .u8 D dl o.d) (kc : Nat) (hkc : (kc : Int) < (a.N : Int)) (hk : o.k = 2) (p : Nat) (hp : o.p = (p : Int)) (hpn : (p : Int) < (a.n : Int)) (hT : a.T p = true) (hf : a.free kc = -1) :
  Calls Tryz.prog 53 #[sval gT cT gB cB gH cH a,.int .i64 (kc : Int),.agg #[.int .i64 o.k,.int .i64 o.p,.int .i64 o.h,.int .i64 o.o,.int .i64 o.n,.slice D dl dc]] w (DoPost G (sval gT cT gB cB gH cH a) w (err 4,a)) := by
 have HB := hid (bx_new (dc := dc) hm hlt hd)
 have HGD := hid hg
 obtain ⟨P,hP⟩ : ∃ P,P = DoPost G (sval gT cT gB cB gH cH a) w (err 4,a) := ⟨_,rfl⟩
 have HP := hid hP
 rw [← hP]
 have HPN := hid (show p < a.n by omega)
 have HRM0 := hid (show kc < a.N by omega)
 have HYhk := hid hk
 clear hk
 have HYhp := hid hp
 clear hp
 have HYhT := hid hT
 clear hT
 have HYhf := hid hf
 clear hf
 clear hm hg hlt hd hP
 go_enter Tryz.func53,Tryz.ntmps53
 go_upto_region 1 with (fail)
 generalize ((w.alloc (.cells #[.slice (some ⟨gT,0,none⟩) a.n cT,.slice (some ⟨gB,0,none⟩) a.n cB,.slice (some ⟨gH,0,none⟩) a.N cH] 50)).alloc (.cells #[.int .i64 o.k,.int .i64 o.p,.int .i64 o.h,.int .i64 o.o,.int .i64 o.n,.slice D dl dc] 30)).alloc (.cells #[.int .i64 0,.int .i64 0,.int .i64 0,.slice none 0 0] 27) = w0 at HB ⊢
 generalize w.heap.size = s at HB ⊢
 have s0 := HB.out.s0
 have s1 := HB.out.s1
 have s2 := HB.out.s2
 have o0 := HB.out.o0
 have o1 := HB.out.o1
 have o2 := HB.out.o2
 have o3 := HB.out.o3
 have o4 := HB.out.o4
 have o5 := HB.out.o5
 have hf := HYhf.out
 have hT := HYhT.out
 have hp := HYhp.out
 have hk := HYhk.out
 rw [hk] at o0
 rw [hp] at o1
 have tp : w0.cell? ⟨gT,p,none⟩ = some (.bool true) := by
  have := HB.out.sm.tb.cell (i := p) (by have := HPN.out;omega)
  unfold tcell at this
  rw [hT] at this
  exact this
 clear hT hp HYhT HYhp
 have HRM := hid (room_any (HB.out.sat HGD.out) HRM0.out)
 rw [show (!decide (a.free kc = -1)) = false by rw [hf];rfl] at HRM
 clear hf
 go_wp2_with (first
  | (go_at_call 112;(with_reducible refine HRM.out.mono ?_);rintro e wr ⟨rfl,hgr⟩;have HGR := hid hgr;have s0 := hgr.cellN s0 id;have s1 := hgr.cellN s1 id;have s2 := hgr.cellN s2 id;have o0 := hgr.cellN o0 id;clear hgr)
  | (go_at_call 65;(with_reducible refine (fail_any _ 4).mono ?_);rintro e wf ⟨rfl,hgf⟩;obtain ⟨t0,t1,t2,t3,tf⟩ := HB.out.res (HGR.out.trans hgf);have HGF := hid (HGR.out.trans hgf);clear hgf))
 rw [HP.out]
 exact ret_res rfl rfl (HB.out.bad HGD.out HGF.out 4).1 rfl (HB.out.bad HGD.out HGF.out 4).2
set_option maxHeartbeats 4000000 in
set_option maxRecDepth 100000 in
theorem do_2 (hm : SM w G gT cT gB cB gH cH q cp a) (hg : MdM.Good a) (hlt : ∀ k,G k → k < w.heap.size) (hd : Sl w w.heap.size .u8 D dl o.d) (kc : Nat) (hkc : (kc : Int) < (a.N : Int)) (hk : o.k = 2) (p : Nat) (hp : o.p = (p : Int)) (hpn : (p : Int) < (a.n : Int)) (hT : a.T p = true) (j : Nat) (hf : a.free kc = (j : Int)) :
  Calls Tryz.prog 53 #[sval gT cT gB cB gH cH a,.int .i64 (kc : Int),.agg #[.int .i64 o.k,.int .i64 o.p,.int .i64 o.h,.int .i64 o.o,.int .i64 o.n,.slice D dl dc]] w (DoPost G (sval gT cT gB cB gH cH a) w (⟨0,(p : Int),(j : Int),[]⟩,a.putH kc j (p : Int))) := by
 have HB := hid (bx_new (dc := dc) hm hlt hd)
 have HGD := hid hg
 obtain ⟨P,hP⟩ : ∃ P,P = DoPost G (sval gT cT gB cB gH cH a) w (⟨0,(p : Int),(j : Int),[]⟩,a.putH kc j (p : Int)) := ⟨_,rfl⟩
 have HP := hid hP
 rw [← hP]
 have HPN := hid (show p < a.n by omega)
 have HRM0 := hid (show kc < a.N by omega)
 have HYhk := hid hk
 clear hk
 have HYhp := hid hp
 clear hp
 have HYhT := hid hT
 clear hT
 have HYhf := hid hf
 clear hf
 clear hm hg hlt hd hP
 go_enter Tryz.func53,Tryz.ntmps53
 go_upto_region 1 with (fail)
 generalize ((w.alloc (.cells #[.slice (some ⟨gT,0,none⟩) a.n cT,.slice (some ⟨gB,0,none⟩) a.n cB,.slice (some ⟨gH,0,none⟩) a.N cH] 50)).alloc (.cells #[.int .i64 o.k,.int .i64 o.p,.int .i64 o.h,.int .i64 o.o,.int .i64 o.n,.slice D dl dc] 30)).alloc (.cells #[.int .i64 0,.int .i64 0,.int .i64 0,.slice none 0 0] 27) = w0 at HB ⊢
 generalize w.heap.size = s at HB ⊢
 have s0 := HB.out.s0
 have s1 := HB.out.s1
 have s2 := HB.out.s2
 have o0 := HB.out.o0
 have o1 := HB.out.o1
 have o2 := HB.out.o2
 have o3 := HB.out.o3
 have o4 := HB.out.o4
 have o5 := HB.out.o5
 have hf := HYhf.out
 have hT := HYhT.out
 have hp := HYhp.out
 have hk := HYhk.out
 have HTT := hid hT
 have HFF := hid hf
 rw [hk] at o0
 rw [hp] at o1
 have tp : w0.cell? ⟨gT,p,none⟩ = some (.bool true) := by
  have := HB.out.sm.tb.cell (i := p) (by have := HPN.out;omega)
  unfold tcell at this
  rw [hT] at this
  exact this
 clear hT hp HYhT HYhp
 have HRM := hid (room_any (HB.out.sat HGD.out) HRM0.out)
 rw [show (!decide (a.free kc = -1)) = true by rw [hf];simp] at HRM
 clear hf
 go_wp2_with (first
  | (go_at_call 112;(with_reducible refine HRM.out.mono ?_);rintro e wr ⟨rfl,hgr⟩;have HGR := hid hgr;have HGV := hid (give_any ((HB.out.sat HGD.out).grow hgr) HRM0.out HFF.out HPN.out HTT.out);have s0 := hgr.cellN s0 id;have s1 := hgr.cellN s1 id;have s2 := hgr.cellN s2 id;have o0 := hgr.cellN o0 id;clear hgr)
  | (go_at_call 113;(with_reducible refine HGV.out.mono ?_);rintro e wg ⟨rfl,hsg,hkg⟩;have HSG := hid hsg;have HKG := hid (HGR.out.kept.trans hkg);obtain ⟨t0,t1,t2,t3,tf⟩ := HB.out.resK (HGR.out.kept.trans hkg);clear hsg hkg))
 rw [HP.out]
 exact ret_res rfl rfl (HB.out.finS HSG.out rfl rfl HKG.out 0 (p : Int) (j : Int)).1 rfl (HB.out.finS HSG.out rfl rfl HKG.out 0 (p : Int) (j : Int)).2
end
end MdE
end Go.Proofs.YtbnkpnllgoghnaaGreat
