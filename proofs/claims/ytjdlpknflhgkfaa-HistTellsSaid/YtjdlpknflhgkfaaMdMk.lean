/-
  The document's state in the making (lavaboref13: New, From): rows that grow side by side.
-/
import Derived.Test.YtjdlpknflhgkfaaMdRef
import Derived.Test.YtjdlpknflhgkfaaTrees
import Derived.Test.YtjdlpknflhgkfaaPmRow
import Derived.Test.YtjdlpknflhgkfaaPmClone
namespace Go.Proofs.Ytjdlpknflhgkfaa.MdK
open Go.ChangeShapes Go.WideShapes Go.ChangeAt Go.RowKit
open Go.Proofs.Ytjdlpknflhgkfaa.Mem Go.Proofs.Ytjdlpknflhgkfaa.Blk Go.Proofs.Ytjdlpknflhgkfaa.Cells Go.Proofs.Ytjdlpknflhgkfaa.Orow Go.Proofs.Ytjdlpknflhgkfaa.GrC Go.Proofs.Ytjdlpknflhgkfaa.MdM Go.Proofs.Ytjdlpknflhgkfaa.MdC Go.Proofs.Ytjdlpknflhgkfaa.MdR

theorem inforows_str : (Try.prog.info? 9).map (fun i => (i.zero, i.size, i.bytes)) = some (some (.string ⟨#[]⟩), 1, 16) := by kernel_rfl
/-- The pages' rows, behind j pages; the box is d. -/
structure Mk1 (w : World) (d j : Nat) (T : Nat → Bool) (Bs : Nat → List Int) (vT vB : Value) : Prop where
  bx : Blk w d 44 [vT, vB, .slice none 0 0]
  T : OS w (d + 1 ≤ ·) vT 4 1 j (tcell T)
  B : OS w (d + 1 ≤ ·) vB 9 1 j (bcell Bs)
  dis : ∀ x, vT.ownBlock = some x → vB.ownBlock ≠ some x
/-- The clients' rows too, behind k clients. -/
structure Mk2 (w : World) (d m2 n k : Nat) (T : Nat → Bool) (Bs : Nat → List Int) (H : Nat → Nat → Int) (vT vB vH : Value) (q cp : Nat → Nat) : Prop where
  bx : Blk w d 44 [vT, vB, vH]
  T : OS w (fun x => d + 1 ≤ x ∧ x < m2) vT 4 1 n (tcell T)
  B : OS w (fun x => d + 1 ≤ x ∧ x < m2) vB 9 1 n (bcell Bs)
  dis : ∀ x, vT.ownBlock = some x → vB.ownBlock ≠ some x
  H : Gr w (fun x => d + 1 ≤ x ∧ m2 ≤ x) vH k q cp H
section
variable {w w' x1 x2 x3 x4 : World} {d m2 j n k gT' gB' c2 c4 : Nat} {T : Nat → Bool} {Bs : Nat → List Int} {H : Nat → Nat → Int} {vT vB vH : Value} {q cp : Nat → Nat} {u2 u4 : Nat → Value}
theorem os_gr {t : TypeId} {s n : Nat} {G : Nat → Prop} {v : Value} {f : Nat → Value} (h : OS w G v t s n f) (hk : Grow w w') : OS w' G v t s n f := h.kept hk fun _ _ x => x
theorem os_keep {t : TypeId} {s n : Nat} {G F : Nat → Prop} {v : Value} {f : Nat → Value} (h : OS w G v t s n f) (hk : Kept F w w') (hF : ∀ k, v.ownBlock = some k → ¬ F k) : OS w' G v t s n f := by
  rcases h with h | ⟨g, cap, e, ho, hg⟩
  · exact .inl h
  · exact .inr ⟨g, cap, e, ho.kept hk (hF g (by rw [e]; rfl)), hg⟩
theorem Mk1.grow (h : Mk1 w d j T Bs vT vB) (hk : Grow w w') : Mk1 w' d j T Bs vT vB := ⟨h.bx.grow hk, os_gr h.T hk, os_gr h.B hk, h.dis⟩
theorem Mk2.grow (h : Mk2 w d m2 n k T Bs H vT vB vH q cp) (hk : Grow w w') : Mk2 w' d m2 n k T Bs H vT vB vH q cp := ⟨h.bx.grow hk, os_gr h.T hk, os_gr h.B hk, h.dis, h.H.kept hk fun _ _ x => x⟩
theorem Mk1.nil (hb : Blk w d 44 [.slice none 0 0, .slice none 0 0, .slice none 0 0]) : Mk1 w d 0 T Bs (.slice none 0 0) (.slice none 0 0) :=
  ⟨hb, .inl ⟨rfl, rfl⟩, .inl ⟨rfl, rfl⟩, fun x e => by cases e⟩
theorem Mk1.go (h : Mk1 w d n T Bs vT vB) : Mk2 w d w.heap.size n 0 T Bs H vT vB (.slice none 0 0) id id :=
  ⟨h.bx, os_mono h.T fun _ hk x => ⟨x, hk⟩, os_mono h.B fun _ hk x => ⟨x, hk⟩, h.dis, gr_nil _ _ _ _ _⟩
theorem Mk1.two (h : Mk1 w d j T Bs vT vB) (g1 : Grow w x1) (ho2 : OR x2 gT' 4 1 c2 (j + 1) (joined (tcell T) u2 (j * 1))) (e2 : u2 0 = .bool (T j)) (hk2 : Kept (fun k => vT.ownBlock = some k) x1 x2) (hb2 : vT.ownBlock = some gT' ∨ gT' = x1.heap.size)
    (g3 : Grow x2 x3) (ho4 : OR x4 gB' 9 1 c4 (j + 1) (joined (bcell Bs) u4 (j * 1))) (e4 : u4 0 = .string (strOfNums (Bs j))) (hk4 : Kept (fun k => vB.ownBlock = some k) x3 x4) (hb4 : vB.ownBlock = some gB' ∨ gB' = x3.heap.size) :
    Mk1 ((x4.setCell ⟨d, 0, none⟩ (.slice (some ⟨gT', 0, none⟩) (j + 1) c2)).setCell ⟨d, 1, none⟩ (.slice (some ⟨gB', 0, none⟩) (j + 1) c4)) d (j + 1) T Bs (.slice (some ⟨gT', 0, none⟩) (j + 1) c2) (.slice (some ⟨gB', 0, none⟩) (j + 1) c4) ∧
    Kept (d ≤ ·) w ((x4.setCell ⟨d, 0, none⟩ (.slice (some ⟨gT', 0, none⟩) (j + 1) c2)).setCell ⟨d, 1, none⟩ (.slice (some ⟨gB', 0, none⟩) (j + 1) c4)) ∧
    Blk x4 d 44 [vT, vB, .slice none 0 0] := by
  have hd := h.bx.lt
  have s1 := g1.size
  have s2 := hk2.size
  have s3 := g3.size
  have s4 := hk4.size
  have oT : ∀ k, vT.ownBlock = some k → d + 1 ≤ k ∧ k < w.heap.size := fun k e => os_in h.T e
  have oB : ∀ k, vB.ownBlock = some k → d + 1 ≤ k ∧ k < w.heap.size := fun k e => os_in h.B e
  have hgT : d + 1 ≤ gT' := by
    rcases hb2 with e | e
    · exact (oT _ e).1
    · omega
  have hgB : d + 1 ≤ gB' := by
    rcases hb4 with e | e
    · exact (oB _ e).1
    · omega
  have hTB : vB.ownBlock ≠ some gT' := fun e => by
    rcases hb2 with e2 | e2
    · exact h.dis _ e2 e
    · have := (oB _ e).2; omega
  have hne : gT' ≠ gB' := fun e => by
    rcases hb4 with e4 | e4
    · exact hTB (e ▸ e4)
    · have := ho2.lt; omega
  have hb : Blk x4 d 44 [vT, vB, .slice none 0 0] := (((h.bx.grow g1).kept hk2 (fun e => by have := (oT _ e).1; omega)).grow g3).kept hk4 (fun e => by have := (oB _ e).1; omega)
  have ks : Kept (fun k => k = d) x4 ((x4.setCell ⟨d, 0, none⟩ (.slice (some ⟨gT', 0, none⟩) (j + 1) c2)).setCell ⟨d, 1, none⟩ (.slice (some ⟨gB', 0, none⟩) (j + 1) c4)) := (kept_set x4 d 0 _).trans (kept_set _ d 1 _)
  have hT4 := (((ho2.kept g3 id).kept hk4 hTB).kept ks (fun e => by have e : gT' = d := e; omega))
  have hB4 := ho4.kept ks (fun e => by have e : gB' = d := e; omega)
  refine ⟨⟨(hb.set 0 _).set 1 _, .inr ⟨gT', c2, rfl, hT4.congr fun i hi => ?_, hgT⟩, .inr ⟨gB', c4, rfl, hB4.congr fun i hi => ?_, hgB⟩, fun x e e' => ?_⟩, ?_, hb⟩
  · unfold joined
    by_cases hi2 : i < j * 1
    · rw [if_pos hi2]
    · obtain rfl : i = j := by omega
      rw [if_neg hi2, show i - i * 1 = 0 by omega, e2]; rfl
  · unfold joined
    by_cases hi2 : i < j * 1
    · rw [if_pos hi2]
    · obtain rfl : i = j := by omega
      rw [if_neg hi2, show i - i * 1 = 0 by omega, e4]; rfl
  · injection e with e; injection e' with e'; exact hne (e.trans e'.symm)
  · exact ((((Grow.kept g1).trans (hk2.mono fun k _ e => by have := (oT k e).1; show d ≤ k; omega)).trans (Grow.kept g3)).trans (hk4.mono fun k _ e => by have := (oB k e).1; show d ≤ k; omega)).trans (ks.mono fun k _ (e : k = d) => by show d ≤ k; omega)
theorem Mk2.push {r c g cap : Nat} (h : Mk2 w d m2 n k T Bs H vT vB vH q cp) (hm : m2 ≤ w.heap.size) (hr : OR w r 3 1 c 6 (hcell (H k))) (hrm : d + 1 ≤ r ∧ m2 ≤ r) (hnr : ∀ i, i < k → q i ≠ r) (hvr : vH.ownBlock ≠ some r)
    (ho : OR w' g 48 1 cap (k + 1) (joined (scell q cp) (rcell r c) (k * 1))) (hk : Kept (fun x => vH.ownBlock = some x) w w') (hg : vH.ownBlock = some g ∨ g = w.heap.size) :
    Mk2 (w'.setCell ⟨d, 2, none⟩ (.slice (some ⟨g, 0, none⟩) (k + 1) cap)) d m2 n (k + 1) T Bs H vT vB (.slice (some ⟨g, 0, none⟩) (k + 1) cap) (up q k r) (up cp k c) ∧
    Kept (d ≤ ·) w (w'.setCell ⟨d, 2, none⟩ (.slice (some ⟨g, 0, none⟩) (k + 1) cap)) ∧ Blk w' d 44 [vT, vB, vH] := by
  have hd := h.bx.lt
  have oH : ∀ x, vH.ownBlock = some x → (d + 1 ≤ x ∧ m2 ≤ x) ∧ x < w.heap.size := fun x e => os_in h.H.out e
  have hgr := h.H.push hr hrm hnr hvr ho hk hg (fun x hx => ⟨by omega, by omega⟩)
  have hb : Blk w' d 44 [vT, vB, vH] := h.bx.kept hk (fun e => by have := (oH _ e).1; omega)
  have ks : Kept (fun x => x = d) w' (w'.setCell ⟨d, 2, none⟩ (.slice (some ⟨g, 0, none⟩) (k + 1) cap)) := kept_set w' d 2 _
  refine ⟨⟨hb.set 2 _, os_keep (os_keep h.T hk fun x e e' => ?_) ks fun x e e' => ?_, os_keep (os_keep h.B hk fun x e e' => ?_) ks fun x e e' => ?_, h.dis, hgr.kept ks fun x hx e => ?_⟩, ?_, hb⟩
  · have := (oH x e').1; have := (os_in h.T e).1; omega
  · have e' : x = d := e'; have := (os_in h.T e).1; omega
  · have := (oH x e').1; have := (os_in h.B e).1; omega
  · have e' : x = d := e'; have := (os_in h.B e).1; omega
  · have e : x = d := e; have := hx.1; omega
  · exact (hk.mono fun x _ e => by have := (oH x e).1; show d ≤ x; omega).trans (ks.mono fun x _ (e : x = d) => by show d ≤ x; omega)
theorem Mk2.at (h : Mk2 w d m2 n k T Bs H vT vB vH q cp) (hg : MdM.Good ⟨n, k, T, Bs, H⟩) : SAt w (d + 1 ≤ ·) (.agg #[vT, vB, vH]) ⟨n, k, T, Bs, H⟩ := by
  have hn := hg.n
  have hN := hg.N
  have hn : 0 < n := hn.1
  have hN : 0 < k := hN.1
  obtain ⟨gT, cT, rfl, oT, iT⟩ := h.T.form hn
  obtain ⟨gB, cB, rfl, oB, iB⟩ := h.B.form hn
  obtain ⟨gH, cH, rfl, oH, iH⟩ := h.H.out.form hN
  refine ⟨hg, gT, cT, gB, cB, gH, cH, q, cp, rfl, ⟨oT, oB, oH, h.H.row, h.H.ne, ⟨fun e => h.dis gT rfl (by rw [e]; rfl), ?_, ?_⟩, fun i hi => ⟨?_, ?_, fun e => h.H.off i hi (by rw [e]; rfl)⟩, ⟨iT.1, iB.1, iH.1⟩, fun i hi => (h.H.inG i hi).1⟩⟩
  · have := iT.2; have := iH.2; omega
  · have := iB.2; have := iH.2; omega
  · have := iT.2; have := (h.H.inG i hi).2; omega
  · have := iB.2; have := (h.H.inG i hi).2; omega
end
end Go.Proofs.Ytjdlpknflhgkfaa.MdK
