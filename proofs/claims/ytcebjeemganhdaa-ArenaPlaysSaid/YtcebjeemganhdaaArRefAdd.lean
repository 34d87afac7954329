/-
  The document's frames (chapter 10, lavaboref10): Drop, Add, NewArena.
-/
import Derived.Test.YtcebjeemganhdaaArRefTake
import Derived.Test.YtcebjeemganhdaaArAdd
namespace Go.Proofs.Ytcebjeemganhdaa.ArRefA
open Go.ChangeShapes Go.WideShapes Go.ChangeAt Go.RowKit
open Go.Proofs.Ytcebjeemganhdaa.Mem Go.Proofs.Ytcebjeemganhdaa.Blk Go.Proofs.Ytcebjeemganhdaa.Cells Go.Proofs.Ytcebjeemganhdaa.Orow Go.Proofs.Ytcebjeemganhdaa.TabM Go.Proofs.Ytcebjeemganhdaa.ArM Go.Proofs.Ytcebjeemganhdaa.ArC Go.Proofs.Ytcebjeemganhdaa.ArRefC Go.Proofs.Ytcebjeemganhdaa.ArRefT Go.Proofs.Ytcebjeemganhdaa.Txt Go.Proofs.Ytcebjeemganhdaa.Stages Go.Proofs.Ytcebjeemganhdaa.Trees
open Go.Proofs.Ytcebjeemganhdaa.ListM (ints ints_len ints_get)

theorem infoI : (Try.prog.info? 3).map (fun i => (i.zero, i.size, i.bytes)) = some (some (.int .i64 0), 1, 8) := by kernel_rfl
section
variable {w w' : World} {G H F : Nat → Prop} {m c g cap gB cB : Nat} {vL vB : Value} {A : Option Addr} {S : Nat → List Int} {a : Ar}
/-- Another queue, in memory that is new. -/
theorem RMem.idle {w4 : World} {A4 : Option Addr} {c4 f : Nat} (h : RMem w G m vL vB A c S a) (hnew : ∀ k, w.heap.size ≤ k → G k) (hg : Grow w w4) (hs : Sl w4 w4.heap.size .i64 A4 (a.Q.length + 1) (ints (a.Q ++ [f]))) (hc : a.Q.length + 1 ≤ c4 ∧ c4 ≤ maxLen) (hA : ∀ x, A4 = some x → w.heap.size ≤ x.block ∧ x.block < w4.heap.size) :
    RMem (w4.setCell ⟨m, 2, none⟩ (.slice A4 (a.Q.length + 1) c4)) G m vL vB A4 c4 S ⟨a.n, a.F, a.B, a.Q ++ [f]⟩ := by
  have hk := kept_set w4 m 2 (.slice A4 (a.Q.length + 1) c4)
  have hl : (a.Q ++ [f]).length = a.Q.length + 1 := by simp
  have hm := h.hd.lt
  refine ⟨((h.hd.kept hg (fun x => x)).set 2 _).congr fun i hi => ?_, (h.fr.kept hg fun _ _ x => x).kept hk fun k x y => x.2.1 y, (h.bo.kept hg fun _ _ x => x).kept hk fun k x y => x.2 y, h.sb, ?_, by rw [hl]; exact hc, fun x hx => ?_, h.inG, fun x hx => Nat.lt_of_lt_of_le (hA x hx).2 hk.size⟩
  · rw [hl]
    have : i = 0 ∨ i = 1 ∨ i = 2 := by omega
    rcases this with rfl | rfl | rfl <;> rfl
  · rw [hl]
    exact sl_at hs hk fun x e y => by have := (hA x e).1; omega
  · have h1 := (hA x hx).1
    exact ⟨hnew _ h1, by omega, fun e => by have := (h.fr.own.2 _ e).2; omega, fun e => by have := (h.bo.own.2 _ e).2; omega⟩
/-- 'append([]int{}, q..)'. -/
theorem copy_idle (h : RMem w G m vL vB A c S a) (hn : a.Q.length ≤ 1000) : ∃ v' w2, (∀ ty, (Builtin.append_ #[45, 45] ty #[.slice (some ⟨w.heap.size, 0, none⟩) 0 0, .slice A a.Q.length c]).run Try.prog (w.alloc (.cells #[] 3)) = .ok v' w2) ∧ w2.ownsRow w.heap.size 3 1 v' a.Q.length ((ints a.Q).map (Value.int .i64)) ∧ Grow w w2 := by
  have hga : Grow w (w.alloc (.cells #[] 3)) := (Kept.refl _ _).alloc _
  have hown := World.ownsRow_lit (base := w.heap.size) (e := 3) (size := 1) w #[] 0 (Nat.le_refl _) (by unfold maxLen; omega) rfl
  have hown' : (w.alloc (.cells #[] 3)).ownsRow w.heap.size 3 1 (.slice (some ⟨w.heap.size, 0, none⟩) 0 0) 0 ([].map (Value.int .i64)) := hown
  have hsl : Sl (w.alloc (.cells #[] 3)) w.heap.size .i64 A a.Q.length (ints a.Q) := Sl.kept h.id hga (Nat.le_refl _) (fun _ _ x => x)
  have key := fun ty => ListR.append_sl (m := a.Q.length) (A := A) (B := w.heap.size) (c := c) (ys := []) ty hown' hsl (by omega) (by simp)
  obtain ⟨v', w2, hr, ho, hb⟩ := key 0
  rw [Nat.zero_add, List.nil_append] at ho
  refine ⟨v', w2, fun ty => ?_, ho, hga.then (F := fun _ => False) (G := (w.heap.size ≤ ·)) ⟨hb.os, hb.tape, hb.output, hb.size, fun k hk hF => hb.block k (by omega)⟩ fun k hk x => by omega⟩
  rw [← hr]
  rfl
theorem below_grow {N : Nat} {w0 w w' : World} (h0 : Grow w0 w) (hN : w0.heap.size ≤ N) (h : Below N w w') : Grow w0 w' := h0.then (F := fun _ => False) (G := (N ≤ ·)) ⟨h.os, h.tape, h.output, h.size, fun k hk hF => h.block k (by omega)⟩ fun k hk x => by omega
theorem own_sl {N n c g f : Nat} {q : List Nat} {w : World} (h : w.ownsRow N 3 1 (.slice (some ⟨g, 0, none⟩) n c) n ((ints q).map (Value.int .i64) ++ [.int .i64 (f : Int)])) : Sl w w.heap.size .i64 (some ⟨g, 0, none⟩) n (ints (q ++ [f])) ∧ (n ≤ c ∧ c ≤ maxLen) ∧ ∀ x, (some ⟨g, 0, none⟩ : Option Addr) = some x → N ≤ x.block ∧ x.block < w.heap.size := by
  have hlt := h.lt g rfl
  rw [show (ints q).map (Value.int .i64) ++ [Value.int .i64 (f : Int)] = (ints (q ++ [f])).map (Value.int .i64) by simp [ints]] at h
  obtain ⟨A, c', e, h1, h2, h3, h4⟩ := ListR.own_form h
  injection e with e1 e2 e3
  subst e1 e3
  exact ⟨h1, ⟨h2, h3⟩, fun x hx => ⟨h4 x hx, by injection hx with hx; subst hx; exact hlt.2⟩⟩
theorem rdrop_any (h : RAt w G m a) (hnew : ∀ k, w.heap.size ≤ k → G k) (k : Int) : Calls Try.prog 22 #[.pointer (some ⟨m, 0, none⟩), .int .i64 k] w (RPost G m w (.int .i64 (a.dropC k)) (a.drop k)) := by
  have HU := Lib.hid (rused_any h k)
  cases hu : a.used k with
  | false =>
    have e1 : a.dropC k = 2 := by unfold Ar.dropC; rw [hu]; rfl
    have e2 : a.drop k = a := by unfold Ar.drop; rw [e1]; rfl
    rw [e1, e2]
    rw [hu] at HU
    have HA := Lib.hid h
    clear h hu e1 e2
    go_enter Try.func22, Try.ntmps22
    go_wp2_with (go_at_call 38; (with_reducible refine HU.out.mono ?_); rintro e w' ⟨rfl, rfl⟩)
    go_ret
    exact ⟨rfl, HA.out, Kept.refl _ _⟩
  | true =>
    rw [hu] at HU
    obtain ⟨f, rfl, hf, hs⟩ := used_iff.1 hu
    have HG := Lib.hid (h.good.drop (f : Int))
    have hbd := h.good.use f hf hs
    have hn32 := h.good.n
    have HQL : Hid (a.Q.length ≤ 32) := by show _ ≤ _; rw [h.good.free]; exact Nat.le_trans (cnt_le _ _) hn32
    obtain ⟨g, cap, vB, A, c, S, hb, hfr, hgG⟩ := h.form (by omega)
    have c0 := hb.c0
    have f2 := FR.c2 hfr hf
    have hfz : (f : Int) < (a.n : Int) := by omega
    have hnz : (a.n : Int) ≤ 32 := by omega
    by_cases hpos : 0 < (a.F f).pn
    · have e1 : a.dropC (f : Int) = 7 := by unfold Ar.dropC; rw [if_pos hu, Int.toNat_natCast, if_pos hpos]
      have e2 : a.drop (f : Int) = a := by unfold Ar.drop; rw [e1]; rfl
      have HA := Lib.hid h
      rw [e1, e2]
      clear h hb hfr hbd e1 e2 HG hu hs
      generalize (a.F f).pn = pn at *
      go_enter Try.func22, Try.ntmps22
      go_wp2_with (go_at_call 38; (with_reducible refine HU.out.mono ?_); rintro e w' ⟨rfl, rfl⟩)
      go_ret
      exact ⟨rfl, HA.out, Kept.refl _ _⟩
    · have e1 : a.dropC (f : Int) = 0 := by unfold Ar.dropC; rw [if_pos hu, Int.toNat_natCast, if_neg hpos]
      have e2 : a.drop (f : Int) = ⟨a.n, upd a.F f fFree, a.B, a.Q ++ [f]⟩ := by unfold Ar.drop; rw [if_pos e1, Int.toNat_natCast]; rfl
      rw [e2] at HG
      rw [e1, e2]
      have h0 : (a.F f).pn = 0 := by omega
      rw [h0] at f2
      have f0 := FR.c0 hfr hf
      have f1 := FR.c1 hfr hf
      have f3 := FR.c3 hfr hf
      have f4 := FR.c4 hfr hf
      have fz := OR.frozen hfr
      have HK1 := Lib.hid (kept_setF w g f fFree)
      have H1 := Lib.hid (RMem.frm hb (FR.setF hfr f fFree) HK1.out fun x hx hs1 => hb.sb x hx (by
        by_cases e : x = f
        · subst e; rw [upd_same] at hs1; have : (0 : Int) = 1 := hs1; omega
        · rw [upd_other _ _ e] at hs1; exact hs1))
      have HNW := Lib.hid hnew
      clear h hb hfr hu hs hbd hpos h0 hnew e1 e2
      go_enter Try.func22, Try.ntmps22
      go_upto_region 6 with (go_at_call 38; (with_reducible refine HU.out.mono ?_); rintro e w' ⟨rfl, rfl⟩)
      rw [show (((((w.setCell ⟨g, f * 5, none⟩ (.int .i64 0)).setCell ⟨g, f * 5 + 1, none⟩ (.int .i64 (-1))).setCell ⟨g, f * 5 + 2, none⟩ (.int .i64 0)).setCell ⟨g, f * 5 + 3, none⟩ (.int .i64 0)).setCell ⟨g, f * 5 + 4, none⟩ (.bool false)) = setF w g f fFree from rfl]
      have HKG : Hid (Kept G w (setF w g f fFree)) := HK1.out.mono fun k _ e => by subst e; exact hgG
      clear c0 f0 f1 f2 f3 f4 fz HU HK1
      generalize setF w g f fFree = w1 at *
      have HNW1 : Hid (∀ k, w1.heap.size ≤ k → G k) := fun k hk => HNW.out k (Nat.le_trans HKG.out.size hk)
      have c2 : w1.cell? ⟨m, 2, none⟩ = some (.slice A a.Q.length c) := H1.out.c2
      obtain ⟨v2, w2, hr2, ho2, hg2⟩ := copy_idle (a := ⟨a.n, upd a.F f fFree, a.B, a.Q⟩) H1.out (Nat.le_trans HQL.out (by omega))
      have c2a : (w1.alloc (.cells #[] 3)).cell? ⟨m, 2, none⟩ = some (.slice A a.Q.length c) := Lib.cell?_alloc_some _ c2
      clear c2
      have HR2 := Lib.hid hr2
      have HO2 := Lib.hid ho2
      have HG2 := Lib.hid hg2
      clear hr2 ho2 hg2
      go_wp2_with (first
        | (at_builtin; refine Lib.wpList_append_run _ rfl _ _ _ _ rfl _ _ rfl rfl _ _ (HR2.out _) ?_)
        | (at_builtin; refine wpList_append_one rfl _ _ 45 rfl w1.heap.size 3 (.int .i64 0) 8 Try.underlying45 infoI rfl _ a.Q.length _ rfl (World.ownsRow.alloc HO2.out _) w2.heap.size (.int .i64 (f : Int)) rfl (cell_new1 _ _ _) rfl (by have := HQL.out; unfold maxLen; omega) (by have := HQL.out; omega) (by have := HG2.out.size; simp; omega) ?_; intro g4 cap4 w4 hown hbel; have HOW4 := Lib.hid hown; have HG4 := Lib.hid (below_grow (HG2.out.trans ((Kept.refl _ w2).alloc _)) (Nat.le_refl _) hbel); clear hown hbel c2a; have e2 : w4.cell? ⟨m, 2, none⟩ = some (.slice A a.Q.length c) := (H1.out.hd.kept HG4.out (fun x => x)).cell (i := 2) (by omega); have mz := (H1.out.hd.kept HG4.out (fun x => x)).frozen 2))
      obtain ⟨hs4, hc4, hA4⟩ := own_sl HOW4.out
      have H4 := Lib.hid (RMem.idle (a := ⟨a.n, upd a.F f fFree, a.B, a.Q⟩) H1.out HNW1.out HG4.out hs4 hc4 hA4)
      have HK4 : Hid (Kept G w1 (w4.setCell ⟨m, 2, none⟩ (.slice (some ⟨g4, 0, none⟩) (a.Q.length + 1) cap4))) := HG4.out.kept.trans ((kept_set _ _ _ _).mono fun k _ e => by subst e; exact H1.out.inG)
      clear hs4 hc4 hA4 e2 mz
      go_ret
      exact ⟨rfl, ⟨HG.out, _, _, _, _, _, H4.out⟩, HKG.out.trans HK4.out⟩
end
end Go.Proofs.Ytcebjeemganhdaa.ArRefA
