/-
  For every input the call of lavabolaw13.ModelAsks returns true and leaves its arguments as they were; no condition.
-/
import Derived.Test.YteiodnclpbjbbaaPmLaw2
import Derived.Test.YteiodnclpbjbbaaMdRun
import Derived.Test.YteiodnclpbjbbaaMdFew
import Derived.Test.YteiodnclpbjbbaaMdIs
import Derived.Test.YteiodnclpbjbbaaMdFrom
import Derived.Test.YteiodnclpbjbbaaMdCopy
import Derived.Test.YteiodnclpbjbbaaMdSame
import Derived.Test.YteiodnclpbjbbaaMdArgs
import Derived.Test.YteiodnclpbjbbaaTold13
import Derived.Test.YteiodnclpbjbbaaRows
import Derived.WalkKit
import Derived.ProofKit
import Derived.OpenShut
import Derived.ShutString
import Derived.ChangeOld
import Derived.Below
namespace Go.Proofs.Yteiodnclpbjbbaa.modelAsks
open Go.ChangeShapes Go.WideShapes Go.ChangeAt Go.RowKit
open Go.ChangeMaps (open_string shut_string)
open Go.Proofs.Yteiodnclpbjbbaa.MdR Go.Proofs.Yteiodnclpbjbbaa.MdD Go.Proofs.Yteiodnclpbjbbaa.MdH Go.Proofs.Yteiodnclpbjbbaa.MdI Go.Proofs.Yteiodnclpbjbbaa.MdJ Go.Proofs.Yteiodnclpbjbbaa.Law13b Go.Proofs.Yteiodnclpbjbbaa.Mem Go.Proofs.Yteiodnclpbjbbaa.Blk Go.Proofs.Yteiodnclpbjbbaa.Cells Go.Proofs.Yteiodnclpbjbbaa.Orow Go.Proofs.Yteiodnclpbjbbaa.GrC Go.Proofs.Yteiodnclpbjbbaa.MdM Go.Proofs.Yteiodnclpbjbbaa.MdC Go.Proofs.Yteiodnclpbjbbaa.PmC Go.Proofs.Yteiodnclpbjbbaa.PmM Go.Proofs.Yteiodnclpbjbbaa.PmS Go.Proofs.Yteiodnclpbjbbaa.PmE Go.Proofs.Yteiodnclpbjbbaa.PmF Go.Proofs.Yteiodnclpbjbbaa.PmP Go.Proofs.Yteiodnclpbjbbaa.Law13 Go.Proofs.Yteiodnclpbjbbaa.Told13 Go.Proofs.Yteiodnclpbjbbaa.Calls13 Go.Proofs.Yteiodnclpbjbbaa.Args13 Go.Proofs.Yteiodnclpbjbbaa.MdFrom Go.Proofs.Yteiodnclpbjbbaa.MdCopy Go.Proofs.Yteiodnclpbjbbaa.MdSame Go.Proofs.Yteiodnclpbjbbaa.Stages
set_option linter.unusedVariables false

theorem own : ownKnob Try.prog.godebug = none := by kernel_rfl
theorem laidOut : laidOutB Try.prog = true := by kernel_rfl

/-- What a call tells is bytes. -/
def Byt (x : Re × Md) : Prop := Bytes x.1.d
theorem run_bytes {a : Md} (g : MdM.Good a) (c : Int) (o : MdOp) : Byt (a.run c o) := by
  have he : ∀ k, Byt (err k, a) := fun k c h => by cases h
  have hz : ∀ c p h m, Byt (⟨c, p, h, []⟩, m) := fun c p h m x hx => by cases hx
  have hp : ∀ (p : Int) (f : Nat → Re × Md), (∀ q, Byt (f q)) → Byt (a.onPage p f) := fun p f h => by
    unfold Md.onPage
    split
    · exact he _
    · split
      · exact he _
      · exact h _
  have hh : ∀ (c h : Int) (f : Nat → Re × Md), (∀ q, Byt (f q)) → Byt (a.onHand c h f) := fun c h f hf => by
    unfold Md.onHand
    split
    · exact he _
    · exact hf _
  unfold Md.run
  split
  · exact he _
  split
  · unfold Md.new
    split
    · exact he _
    · split
      · exact he _
      · exact hz _ _ _ _
  split
  · exact hp _ _ fun q => by
      unfold Md.fetch
      split
      · exact he _
      · exact hz _ _ _ _
  split
  · exact hh _ _ _ fun q => by
      unfold Md.read
      split
      · exact he _
      · exact fun x hx => g.byt q x (List.mem_of_mem_drop (List.mem_of_mem_take hx))
  split
  · exact hh _ _ _ fun q => by
      unfold Md.write
      split
      · exact he _
      · exact hz _ _ _ _
  split
  · exact hh _ _ _ fun q => hz _ _ _ _
  split
  · exact hp _ _ fun q => hz _ _ _ _
  split
  · exact hz _ _ _ _
  · exact hp _ _ fun q => by
      unfold Md.del
      split
      · exact he _
      · exact hz _ _ _ _
section
variable {w : World} {a : Md} {D : Option Addr} {dl dc : Nat} {d : List Int} {rc rp rh : Int} {rd : List Int} {U : Md} {s t : St} {v v' : Value}
theorem m_do (hs : Seen w v (stOf a)) (g : MdM.Good a) (c k p h o n : Int) (hd : Sl w w.heap.size .u8 D dl d) (hb : Bytes d) (hl : dl ≤ dc) (hm : dc ≤ maxLen) (h63 : o ≤ 9223372036854775807) (hr : a.run c ⟨k, p, h, o, n, d⟩ = (⟨rc, rp, rh, rd⟩, U)) :
    Calls Try.prog 12 #[v, .int .i64 c, .agg #[.int .i64 k, .int .i64 p, .int .i64 h, .int .i64 o, .int .i64 n, .slice D dl dc]] w (DoQ rc rp rh rd U w) := by
  refine (mdo_any hs g c (o := ⟨k, p, h, o, n, d⟩) ⟨D, dl, dc, rfl, hd, hb, hl, hm⟩ h63).mono fun e w' hq => ?_
  unfold DoP at hq
  rw [hr] at hq
  obtain ⟨sv, rv, rfl, hpa, ⟨A, n, cap, rfl, hz, hA, hfz⟩, hg⟩ := hq
  obtain ⟨AT, cT, AB, cB, AH, cH, rfl⟩ := pat_form hpa
  exact ⟨_, _, _, _, _, _, _, _, _, _, _, _, rfl, hpa, ⟨hz, hA, hfz⟩, hg⟩
theorem tells_b {q : Prop} {f : Nat} {args : Array Value} {b : Bool} (hb : b = true ↔ q) (h : Calls Try.prog f args w (Tells q w)) : Calls Try.prog f args w fun e w' => e = .returned (.bool b) ∧ Grow w w' := by
  refine h.mono fun e w' ⟨⟨b', he, hb'⟩, hg⟩ => ⟨?_, hg⟩
  rw [he]
  congr 1
  congr 1
  rw [Bool.eq_iff_iff, hb, hb']
theorem boxes3 (w : World) (x y z x' y' z' k p h o n q : Value) :
    Grow w (((w.alloc (.cells #[x, y, z] 28)).alloc (.cells #[x', y', z'] 28)).alloc (.cells #[k, p, h, o, n, q] 35)) ∧
    Blk (((w.alloc (.cells #[x, y, z] 28)).alloc (.cells #[x', y', z'] 28)).alloc (.cells #[k, p, h, o, n, q] 35)) w.heap.size 28 [x, y, z] ∧
    Blk (((w.alloc (.cells #[x, y, z] 28)).alloc (.cells #[x', y', z'] 28)).alloc (.cells #[k, p, h, o, n, q] 35)) (w.heap.size + 1) 28 [x', y', z'] ∧
    Blk (((w.alloc (.cells #[x, y, z] 28)).alloc (.cells #[x', y', z'] 28)).alloc (.cells #[k, p, h, o, n, q] 35)) (w.heap.size + 1 + 1) 35 [k, p, h, o, n, q] := by
  have g1 : Grow w (w.alloc (.cells #[x, y, z] 28)) := (Kept.refl _ _).alloc _
  have b1 := Blk.new w 28 [x, y, z]
  have z1 : (w.alloc (.cells #[x, y, z] 28)).heap.size = w.heap.size + 1 := by simp
  generalize w.alloc (.cells #[x, y, z] 28) = u at *
  have g2 : Grow u (u.alloc (.cells #[x', y', z'] 28)) := (Kept.refl _ _).alloc _
  have b2 := Blk.new u 28 [x', y', z']
  have z2 : (u.alloc (.cells #[x', y', z'] 28)).heap.size = u.heap.size + 1 := by simp
  generalize u.alloc (.cells #[x', y', z'] 28) = v at *
  have g3 : Grow v (v.alloc (.cells #[k, p, h, o, n, q] 35)) := (Kept.refl _ _).alloc _
  have b3 := Blk.new v 35 [k, p, h, o, n, q]
  rw [z1] at b2 z2
  rw [z2] at b3
  exact ⟨(g1.trans g2).trans g3, (b1.grow g2).grow g3, b2.grow g3, b3⟩
theorem s_box (w : World) (x y z : Value) : Grow w (w.alloc (.cells #[x, y, z] 41)) ∧ Blk (w.alloc (.cells #[x, y, z] 41)) w.heap.size 41 [x, y, z] ∧ (w.alloc (.cells #[x, y, z] 41)).heap.size = w.heap.size + 1 := ⟨(Kept.refl _ _).alloc _, Blk.new w _ [x, y, z], by simp⟩
theorem r_box (w : World) (c p h d : Value) : Grow w (w.alloc (.cells #[c, p, h, d] 31)) ∧ Blk (w.alloc (.cells #[c, p, h, d] 31)) w.heap.size 31 [c, p, h, d] := ⟨(Kept.refl _ _).alloc _, Blk.new w _ [c, p, h, d]⟩
theorem sl_keptB {w' : World} {F : Nat → Prop} {n : Nat} {k : IntKind} {A : Option Addr} {zs : List Int} (h : Sl w w.heap.size k A n zs) (hk : Kept F w w') (hF : ∀ b, b < w.heap.size → ¬ F b) : Sl w' w'.heap.size k A n zs := (Blk.Sl.kept h hk (Nat.le_refl _) hF).more hk.size
theorem s_form {G : Nat → Prop} (h : SAt w G v a) : ∃ AT cT AB cB AH cH, v = .agg #[.slice AT a.n cT, .slice AB a.n cB, .slice AH a.N cH] := by
  obtain ⟨gT, cT, gB, cB, gH, cH, q, cp, rfl, _⟩ := h.mem
  exact ⟨_, _, _, _, _, _, rfl⟩
end
set_option maxHeartbeats 8000000 in
set_option maxRecDepth 100000 in
theorem walk (a0 : Value) (a1 : Value) (a2 : Int) (a3 : Value) (w : World) (w0 : StArg w a0) (w1 : StArg w a1) (w2 : (Lit.int .i64 a2).wf = true) (w3 : OpArg w a3) :
    Calls Try.prog 4 #[a0, a1, .int .i64 a2, a3] w fun e w' => e = .returned (.bool true) ∧ Below w.heap.size w w' := by
  obtain ⟨s, AT, cT, AB, cB, AH, cH, rfl, hps⟩ := w0
  obtain ⟨t, AT', cT', AB', cB', AH', cH', rfl, hpt⟩ := w1
  obtain ⟨k, p, h, o, n, A, len, cap, rfl, hby, ho1, ho2⟩ := w3
  obtain ⟨d, hd, hdb, hl1, hl2⟩ := hby
  have HPS := Lib.hid hps
  have HPT := Lib.hid hpt
  have HD := Lib.hid (And.intro hd (And.intro hdb (And.intro hl1 (And.intro hl2 ho2))))
  obtain ⟨hgb, hs0, ht0, hop⟩ := boxes3 w (.slice AT s.nT cT) (.slice AB s.nB cB) (.slice AH s.nH cH) (.slice AT' t.nT cT') (.slice AB' t.nB cB') (.slice AH' t.nH cH') (.int .i64 k) (.int .i64 p) (.int .i64 h) (.int .i64 o) (.int .i64 n) (.slice A len cap)
  have HGB := Lib.hid hgb
  have HS0 := Lib.hid hs0
  have HT0 := Lib.hid ht0
  have HOP := Lib.hid hop
  clear hgb hs0 ht0 hop hps hpt hd hdb hl1 hl2 ho1 ho2
  have HSS : Hid (∀ wx, Grow w wx → Seen wx (.agg #[.slice AT s.nT cT, .slice AB s.nB cB, .slice AH s.nH cH]) s) := fun wx hg => ⟨_, _, _, _, _, _, rfl, HPS.out.grow hg⟩
  have HST : Hid (∀ wx, Grow w wx → Seen wx (.agg #[.slice AT' t.nT cT', .slice AB' t.nB cB', .slice AH' t.nH cH']) t) := fun wx hg => ⟨_, _, _, _, _, _, rfl, HPT.out.grow hg⟩
  go_enter Try.func4, Try.ntmps4
  go_upto_region 1 with (fail)
  generalize ((w.alloc (.cells #[.slice AT s.nT cT, .slice AB s.nB cB, .slice AH s.nH cH] 28)).alloc (.cells #[.slice AT' t.nT cT', .slice AB' t.nB cB', .slice AH' t.nH cH'] 28)).alloc (.cells #[.int .i64 k, .int .i64 p, .int .i64 h, .int .i64 o, .int .i64 n, .slice A len cap] 35) = wb at HGB HS0 HT0 HOP ⊢
  obtain ⟨m, hm⟩ : ∃ m, m = w.heap.size := ⟨_, rfl⟩
  rw [← hm] at HS0 HT0 HOP ⊢
  have HMW := Lib.hid hm
  clear hm
  have s0 := HS0.out.cell 0
  have s1 := HS0.out.cell 1
  have s2 := HS0.out.cell 2
  simp only [List.getElem?_cons_zero, List.getElem?_cons_succ] at s0 s1 s2
  have CFS : Hid (∀ (b : Bool), (b = true ↔ s.few) → ∀ wx, Grow w wx → Calls Try.prog 13 #[.agg #[.slice AT s.nT cT, .slice AB s.nB cB, .slice AH s.nH cH]] wx fun e w' => e = .returned (.bool b) ∧ Grow wx w') := fun b hb wx hg => tells_b hb (few_any (HPS.out.grow hg))
  have CFT : Hid (∀ (b : Bool), (b = true ↔ t.few) → ∀ wx, Grow w wx → Calls Try.prog 13 #[.agg #[.slice AT' t.nT cT', .slice AB' t.nB cB', .slice AH' t.nH cH']] wx fun e w' => e = .returned (.bool b) ∧ Grow wx w') := fun b hb wx hg => tells_b hb (few_any (HPT.out.grow hg))
  by_cases hfs : s.few
  · have HFS := Lib.hid hfs
    clear hfs
    by_cases hft : t.few
    · have HFT := Lib.hid hft
      clear hft
      by_cases h40 : 40 < len
      · have h40z : (40 : Int) < (len : Int) := by omega
        go_wp2_with (first
          | (go_at_call 13; (with_reducible refine (CFS.out true ⟨fun _ => HFS.out, fun _ => rfl⟩ _ HGB.out).mono ?_); rintro e wf ⟨rfl, hg⟩; have HG1 := Lib.hid hg; have ht := HT0.out.grow hg; have t0 := ht.cell 0; have t1 := ht.cell 1; have t2 := ht.cell 2; simp only [List.getElem?_cons_zero, List.getElem?_cons_succ] at t0 t1 t2; clear hg ht)
          | (go_at_call 13; (with_reducible refine (CFT.out true ⟨fun _ => HFT.out, fun _ => rfl⟩ _ (HGB.out.trans HG1.out)).mono ?_); rintro e wg ⟨rfl, hg⟩; have HG2 := Lib.hid hg; have ho := (HOP.out.grow HG1.out).grow hg; have o5 := ho.cell 5; simp only [List.getElem?_cons_zero, List.getElem?_cons_succ] at o5; clear hg ho)
          | (go_at_call 10; (with_reducible refine (told_any _).mono ?_); rintro e wt ⟨rfl, hge⟩; have HGE := Lib.hid hge; clear hge))
        go_ret
        exact ⟨rfl, Grow.below (((HGB.out.trans HG1.out).trans HG2.out).trans HGE.out)⟩
      · have h40z : (len : Int) ≤ 40 := by omega
        clear h40
        go_upto_region 3 with (first
          | (go_at_call 13; (with_reducible refine (CFS.out true ⟨fun _ => HFS.out, fun _ => rfl⟩ _ HGB.out).mono ?_); rintro e wf ⟨rfl, hg⟩; have HG1 := Lib.hid hg; have ht := HT0.out.grow hg; have t0 := ht.cell 0; have t1 := ht.cell 1; have t2 := ht.cell 2; simp only [List.getElem?_cons_zero, List.getElem?_cons_succ] at t0 t1 t2; clear hg ht)
          | (go_at_call 13; (with_reducible refine (CFT.out true ⟨fun _ => HFT.out, fun _ => rfl⟩ _ (HGB.out.trans HG1.out)).mono ?_); rintro e wg ⟨rfl, hg⟩; have HG2 := Lib.hid hg; have ho := (HOP.out.grow HG1.out).grow hg; have o5 := ho.cell 5; simp only [List.getElem?_cons_zero, List.getElem?_cons_succ] at o5; clear hg ho))
        have HGW : Hid (Grow w wg) := (HGB.out.trans HG1.out).trans HG2.out
        have HS1 := Lib.hid ((HS0.out.grow HG1.out).grow HG2.out)
        have HT1 := Lib.hid ((HT0.out.grow HG1.out).grow HG2.out)
        have HO1 := Lib.hid ((HOP.out.grow HG1.out).grow HG2.out)
        clear s0 s1 s2 t0 t1 t2 o5 HGB HG1 HG2 HS0 HT0 HOP CFS CFT
        have s0 := HS1.out.cell 0
        have s1 := HS1.out.cell 1
        have s2 := HS1.out.cell 2
        simp only [List.getElem?_cons_zero, List.getElem?_cons_succ] at s0 s1 s2
        have CF : Hid (∀ wx, Grow w wx → Calls Try.prog 14 #[.agg #[.slice AT s.nT cT, .slice AB s.nB cB, .slice AH s.nH cH]] wx (FromP s wx)) := fun wx hg => from_any (HPS.out.grow hg)
        obtain ⟨bb, hbb⟩ : ∃ b : Bool, b = true ↔ s.same t := by
          by_cases h : s.same t
          · exact ⟨true, fun _ => h, fun _ => rfl⟩
          · exact ⟨false, fun e => Bool.noConfusion e, fun e => absurd e h⟩
        have HBB := Lib.hid hbb
        clear hbb
        have CSA : Hid (∀ wx, Grow w wx → Calls Try.prog 16 #[.agg #[.slice AT s.nT cT, .slice AB s.nB cB, .slice AH s.nH cH], .agg #[.slice AT' t.nT cT', .slice AB' t.nB cB', .slice AH' t.nH cH']] wx fun e w' => e = .returned (.bool bb) ∧ Grow wx w') := fun wx hg => tells_b HBB.out (same_any (HSS.out wx hg) (HST.out wx hg) HFS.out)
        have CSB : Hid (∀ wx, Grow w wx → Calls Try.prog 17 #[.agg #[.slice AT s.nT cT, .slice AB s.nB cB, .slice AH s.nH cH], .agg #[.slice AT' t.nT cT', .slice AB' t.nB cB', .slice AH' t.nH cH']] wx fun e w' => e = .returned (.bool bb) ∧ Grow wx w') := fun wx hg => tells_b HBB.out (lsame_any (HPS.out.grow hg) (HPT.out.grow hg) HFS.out)
        have CSC : Hid (∀ wx, Grow w wx → Calls Try.prog 16 #[.agg #[.slice AT s.nT cT, .slice AB s.nB cB, .slice AH s.nH cH], .agg #[.slice AT s.nT cT, .slice AB s.nB cB, .slice AH s.nH cH]] wx fun e w' => e = .returned (.bool true) ∧ Grow wx w') := fun wx hg => tells_b ⟨fun _ => same_refl s, fun _ => rfl⟩ (same_any (HSS.out wx hg) (HSS.out wx hg) HFS.out)
        by_cases hm : s.may
        · have HM := Lib.hid hm
          clear hm
          go_upto_region 4 with (go_at_call 14; (with_reducible refine (CF.out _ HGW.out).mono ?_); rintro e wf ⟨X1, n1, c1, X2, n2, c2, X3, n3, c3, b, rfl, hb, hat, hgf⟩; have HATB := Lib.hid hat; have HBF := Lib.hid hb; have HGF := Lib.hid hgf; clear hb hat hgf)
          have hb0 := HBF.out
          obtain rfl : b = true := hb0.2 HM.out
          clear hb0
          obtain ⟨hgx, hxb, _⟩ := s_box wf (.slice X1 n1 c1) (.slice X2 n2 c2) (.slice X3 n3 c3)
          obtain ⟨b9, hb9⟩ : ∃ x, x = wf.heap.size := ⟨_, rfl⟩
          rw [← hb9] at hxb ⊢
          generalize wf.alloc (.cells #[.slice X1 n1 c1, .slice X2 n2 c2, .slice X3 n3 c3] 41) = wx at hgx hxb ⊢
          have HGX : Hid (Grow wg wx) := HGF.out.trans hgx
          have HX9 := Lib.hid hxb
          have HSx := Lib.hid (HS1.out.grow HGX.out)
          have HTx := Lib.hid (HT1.out.grow HGX.out)
          have HOx := Lib.hid (HO1.out.grow HGX.out)
          have HGx : Hid (Grow w wx) := HGW.out.trans HGX.out
          have HATX := Lib.hid ((HATB.out rfl).grow hgx)
          clear hgx hxb hb9 s0 s1 s2 CF HATB HBF HGF
          have s0 := HSx.out.cell 0
          have s1 := HSx.out.cell 1
          have s2 := HSx.out.cell 2
          have o0 := HOx.out.cell 0
          have o1 := HOx.out.cell 1
          have o2 := HOx.out.cell 2
          have o3 := HOx.out.cell 3
          have o4 := HOx.out.cell 4
          have o5 := HOx.out.cell 5
          simp only [List.getElem?_cons_zero, List.getElem?_cons_succ] at s0 s1 s2 o0 o1 o2 o3 o4 o5
          have HGD0 := Lib.hid (may_good HM.out HPS.out.byt)
          have HSM : Hid (∀ wy, Grow w wy → Seen wy (.agg #[.slice AT s.nT cT, .slice AB s.nB cB, .slice AH s.nH cH]) (stOf s.md)) := fun wy hg => (HSS.out wy hg).congr (may_same HM.out)
          obtain ⟨rc, rp, rh, rd, U, hr⟩ : ∃ rc rp rh rd U, s.md.run a2 ⟨k, p, h, o, n, d⟩ = (⟨rc, rp, rh, rd⟩, U) := ⟨_, _, _, _, _, rfl⟩
          have HR := Lib.hid hr
          have hrb := run_bytes HGD0.out a2 ⟨k, p, h, o, n, d⟩
          rw [hr] at hrb
          have HRB : Hid (Bytes rd) := hrb
          clear hrb
          have HDO := Lib.hid (m_do (HSM.out _ HGx.out) HGD0.out a2 k p h o n (sl_grow HD.out.1 HGx.out) HD.out.2.1 HD.out.2.2.1 HD.out.2.2.2.1 HD.out.2.2.2.2 hr)
          clear hr
          go_upto_region 5 with (go_at_call 12; (with_reducible refine HDO.out.mono ?_); rintro e wd ⟨XT, nT, jT, XB, nB, jB, XH, nH, jH, RA, rn, rcap, rfl, hpa, hre, hgd⟩; have HPD := Lib.hid hpa; have HRR := Lib.hid hre; have HGD := Lib.hid hgd; clear hpa hre hgd)
          clear s0 s1 s2 o0 o1 o2 o3 o4 o5
          obtain ⟨ht1, ht2, hgt⟩ := two_box wd (.slice XT nT jT) (.slice XB nB jB) (.slice XH nH jH) (.int .i64 rc) (.int .i64 rp) (.int .i64 rh) (.slice RA rn rcap)
          obtain ⟨q, hq⟩ : ∃ q, q = wd.heap.size := ⟨_, rfl⟩
          rw [← hq] at ht1 ht2 ⊢
          generalize (wd.alloc (.cells #[.slice XT nT jT, .slice XB nB jB, .slice XH nH jH] 28)).alloc (.cells #[.int .i64 rc, .int .i64 rp, .int .i64 rh, .slice RA rn rcap] 31) = we at ht1 ht2 hgt ⊢
          have HGE0 : Hid (Grow wx we) := HGD.out.trans hgt
          have HE1 := Lib.hid ht1
          have HE2 := Lib.hid ht2
          have HNe := Lib.hid (HPD.out.grow hgt)
          have HRe := Lib.hid (sl_grow HRR.out.1 hgt)
          have HXe := Lib.hid (HATX.out.grow HGE0.out)
          have HX9e := Lib.hid (HX9.out.grow HGE0.out)
          have HSe := Lib.hid (HSx.out.grow HGE0.out)
          have HTe := Lib.hid (HTx.out.grow HGE0.out)
          have HOe := Lib.hid (HOx.out.grow HGE0.out)
          have HGe : Hid (Grow w we) := HGx.out.trans HGE0.out
          clear hq ht1 ht2 hgt HDO HPD HRR HGD HATX HX9 HSx HTx HOx
          have HGd : Hid (Grow w we.drew) := HGe.out.drew
          have CMY : Hid (∀ wx, Grow w wx → Calls Try.prog 15 #[.agg #[.slice AT s.nT cT, .slice AB s.nB cB, .slice AH s.nH cH]] wx fun e w' => e = .returned (.bool true) ∧ Grow wx w') := fun wx hg => tells_b ⟨fun _ => HM.out, fun _ => rfl⟩ (may_any (HPS.out.grow hg) HFS.out)
          have hbx : (bb != bb) = false := by cases bb <;> rfl
          have s0 := up_cell (F := fun _ => False) (w := we.drew) (p := ⟨m, 0, none⟩) (HSe.out.drew.cell 0) id
          have s1 := up_cell (F := fun _ => False) (w := we.drew) (p := ⟨m, 1, none⟩) (HSe.out.drew.cell 1) id
          have s2 := up_cell (F := fun _ => False) (w := we.drew) (p := ⟨m, 2, none⟩) (HSe.out.drew.cell 2) id
          go_upto_region 5 with (fail)
          refine wp_region_stages (Kept fun _ => False) (kept_refl _) (kept_trans _) [([0, 2], 1), ([3, 4, 5, 6, 8, 9], 7), ([], 10), ([11, 12, 13, 14, 15], 16)] [17, 18] (by kernel_rfl) (by kernel_rfl) ?_
          simp only [selSt, sel, List.map_cons, List.map_nil, List.getD_cons_succ, List.getD_cons_zero]
          refine st_cons fun K1 hK1 => ?_
          repeat (go_big_quiet_step (fail))
          refine wpQuiet_nil ?_
          clear s0 s1 s2
          go_wp2_with (go_at_call 15; (with_reducible refine (CMY.out _ HGd.out).mono ?_); rintro e v1 ⟨rfl, hg⟩; have HGv := Lib.hid hg; clear hg)
          refine norm_up (hK1 _ _ HGv.out (st_cons fun K2 hK2 => ?_))
          clear hK1 K1
          have HV1 : Hid (Grow we v1) := ((Kept.refl _ we).drew).trans HGv.out
          have s0 := up_cell (F := fun _ => False) (w := v1) (p := ⟨m, 0, none⟩) ((HSe.out.grow HV1.out).cell 0) id
          have s1 := up_cell (F := fun _ => False) (w := v1) (p := ⟨m, 1, none⟩) ((HSe.out.grow HV1.out).cell 1) id
          have s2 := up_cell (F := fun _ => False) (w := v1) (p := ⟨m, 2, none⟩) ((HSe.out.grow HV1.out).cell 2) id
          have t0 := up_cell (F := fun _ => False) (w := v1) (p := ⟨m + 1, 0, none⟩) ((HTe.out.grow HV1.out).cell 0) id
          have t1 := up_cell (F := fun _ => False) (w := v1) (p := ⟨m + 1, 1, none⟩) ((HTe.out.grow HV1.out).cell 1) id
          have t2 := up_cell (F := fun _ => False) (w := v1) (p := ⟨m + 1, 2, none⟩) ((HTe.out.grow HV1.out).cell 2) id
          repeat (go_big_quiet_step (fail))
          refine wpQuiet_nil ?_
          clear s0 s1 s2 t0 t1 t2
          go_wp2_with (go_at_call 16; (with_reducible refine (CSA.out _ (HGe.out.trans HV1.out)).mono ?_); rintro e v2 ⟨rfl, hg⟩; have HGv2 := Lib.hid hg; clear hg)
          refine norm_up (hK2 _ _ HGv2.out (st_cons fun K3 hK3 => wpQuiet_nil ?_))
          clear hK2 K2
          go_wp2_with (go_at_call 17; (with_reducible refine (CSB.out _ ((HGe.out.trans HV1.out).trans HGv2.out)).mono ?_); rintro e v3 ⟨rfl, hg⟩; have HGv3 := Lib.hid hg; clear hg)
          refine norm_up (hK3 _ _ HGv3.out (st_cons fun K4 hK4 => ?_))
          clear hK3 K3
          have HV3 : Hid (Grow we v3) := (HV1.out.trans HGv2.out).trans HGv3.out
          have s0 := up_cell (F := fun _ => False) (w := v3) (p := ⟨m, 0, none⟩) ((HSe.out.grow HV3.out).cell 0) id
          have s1 := up_cell (F := fun _ => False) (w := v3) (p := ⟨m, 1, none⟩) ((HSe.out.grow HV3.out).cell 1) id
          have s2 := up_cell (F := fun _ => False) (w := v3) (p := ⟨m, 2, none⟩) ((HSe.out.grow HV3.out).cell 2) id
          repeat (go_big_quiet_step (fail))
          refine wpQuiet_nil ?_
          clear s0 s1 s2
          go_wp2_with (go_at_call 16; (with_reducible refine (CSC.out _ (HGe.out.trans HV3.out)).mono ?_); rintro e v4 ⟨rfl, hg⟩; have HGv4 := Lib.hid hg; clear hg)
          refine norm_up (hK4 _ _ HGv4.out (st_nil fun K5 hK5 => ?_))
          clear hK4 K4
          repeat (go_big_quiet_step (fail))
          refine wpQuiet_nil (hK5 _ ?_)
          clear hK5 K5
          have HV4 : Hid (Grow we v4) := HV3.out.trans HGv4.out
          have CCP : Hid (∀ wy, Grow we wy → Calls Try.prog 18 #[.agg #[.slice X1 n1 c1, .slice X2 n2 c2, .slice X3 n3 c3]] wy (CopyP s.md wy)) := fun wy hg => copy_any (HXe.out.grow hg)
          have hx9 := HX9e.out.grow HV4.out
          have x0 := hx9.cell 0
          have x1 := hx9.cell 1
          have x2 := hx9.cell 2
          simp only [List.getElem?_cons_zero, List.getElem?_cons_succ] at x0 x1 x2
          clear hx9
          go_upto_region 10 with (go_at_call 18; (with_reducible refine (CCP.out _ HV4.out).mono ?_); rintro e wp ⟨vy, rfl, hya, hgp⟩; obtain ⟨YT, dT, YB, dB, YH, dH, rfl⟩ := s_form hya; have HYA := Lib.hid hya; have HGP := Lib.hid hgp; clear hya hgp)
          obtain ⟨hgy, hyb, hyz⟩ := s_box wp (.slice YT s.md.n dT) (.slice YB s.md.n dB) (.slice YH s.md.N dH)
          obtain ⟨b13, hb13⟩ : ∃ x, x = wp.heap.size := ⟨_, rfl⟩
          rw [← hb13] at hyb hyz ⊢
          have hyc := (HYA.out.mono (X := fun x => v4.heap.size ≤ x ∧ x < b13) fun x hx (e : v4.heap.size ≤ x) => ⟨e, by omega⟩).grow hgy
          generalize wp.alloc (.cells #[.slice YT s.md.n dT, .slice YB s.md.n dB, .slice YH s.md.N dH] 41) = wy at hgy hyb hyz hyc ⊢
          have HG4y : Hid (Grow v4 wy) := HGP.out.trans hgy
          have HYC := Lib.hid hyc
          have HYB13 := Lib.hid hyb
          have HYZ : Hid (wy.heap.size = b13 + 1) := hyz
          have HGy : Hid (Grow w wy) := (HGe.out.trans HV4.out).trans HG4y.out
          have hoy := (HOe.out.grow HV4.out).grow HG4y.out
          have o0 := hoy.cell 0
          have o1 := hoy.cell 1
          have o2 := hoy.cell 2
          have o3 := hoy.cell 3
          have o4 := hoy.cell 4
          have o5 := hoy.cell 5
          have y0 := hyb.cell 0
          have y1 := hyb.cell 1
          have y2 := hyb.cell 2
          simp only [List.getElem?_cons_zero, List.getElem?_cons_succ] at o0 o1 o2 o3 o4 o5 y0 y1 y2
          clear hgy hyb hyz hyc hb13 hoy x0 x1 x2 CCP HYA
          have CRD : Hid (Calls Try.prog 19 #[.agg #[.slice YT s.md.n dT, .slice YB s.md.n dB, .slice YH s.md.N dH], .int .i64 a2, .agg #[.int .i64 k, .int .i64 p, .int .i64 h, .int .i64 o, .int .i64 n, .slice A len cap]] wy (DoPost (fun x => v4.heap.size ≤ x ∧ x < b13) (.agg #[.slice YT s.md.n dT, .slice YB s.md.n dB, .slice YH s.md.N dH]) wy (⟨rc, rp, rh, rd⟩, U))) := by
            have h1 := rdo_any HYC.out (fun x hx => by have := HYZ.out; omega) a2 (o := ⟨k, p, h, o, n, d⟩) ⟨A, len, cap, rfl, sl_grow HD.out.1 HGy.out, HD.out.2.1, HD.out.2.2.1, HD.out.2.2.2.1⟩
            rw [HR.out] at h1
            exact h1
          go_upto_region 11 with (go_at_call 19; (with_reducible refine CRD.out.mono ?_); rintro e wz ⟨⟨rv, rfl, QA, qn, qcap, rfl, hzz, _⟩, hsz, hkz⟩; have HZZ := Lib.hid hzz; have HSZ := Lib.hid hsz; have HKZ := Lib.hid hkz; clear hzz hsz hkz)
          obtain ⟨hgr, hrb14⟩ := r_box wz (.int .i64 rc) (.int .i64 rp) (.int .i64 rh) (.slice QA qn qcap)
          obtain ⟨b14, hb14⟩ : ∃ x, x = wz.heap.size := ⟨_, rfl⟩
          rw [← hb14] at hrb14 ⊢
          generalize wz.alloc (.cells #[.int .i64 rc, .int .i64 rp, .int .i64 rh, .slice QA qn qcap] 31) = wE at hgr hrb14 ⊢
          have HR14 := Lib.hid hrb14
          have HK4 : Hid (Kept (fun x => v4.heap.size ≤ x ∧ x < b13) v4 wE) := ((Grow.kept HG4y.out).trans HKZ.out).trans (Grow.kept hgr)
          have HKY : Hid (Kept (fun x => v4.heap.size ≤ x ∧ x < b13) wy wE) := HKZ.out.trans (Grow.kept hgr)
          have HNF : Hid (∀ x, x < v4.heap.size → ¬ (v4.heap.size ≤ x ∧ x < b13)) := fun x h e => by omega
          have hE : ∀ {b : Nat} {t : TypeId} {cs : List Value}, Blk we b t cs → Blk wE b t cs := fun h => by
            have h4 := h.grow HV4.out
            exact h4.kept HK4.out (HNF.out _ h4.lt)
          have HSE := Lib.hid (hE HSe.out)
          have HOE := Lib.hid (hE HOe.out)
          have HX9E := Lib.hid (hE HX9e.out)
          have HE1E := Lib.hid (hE HE1.out)
          have HE2E := Lib.hid (hE HE2.out)
          have HY13 := Lib.hid (HYB13.out.kept HKY.out fun (e : v4.heap.size ≤ b13 ∧ b13 < b13) => by omega)
          have HYE := Lib.hid (HSZ.out.grow hgr)
          have HNE := Lib.hid (((HNe.out.grow HV4.out).mono (X := fun x => x < v4.heap.size) fun x hx _ => hx).kept HK4.out fun x (hx : x < v4.heap.size) => HNF.out x hx)
          have HXE := Lib.hid (((HXe.out.grow HV4.out).mono (X := fun x => x < v4.heap.size) fun x hx _ => hx).kept HK4.out fun x (hx : x < v4.heap.size) => HNF.out x hx)
          have HRE := Lib.hid (sl_keptB (sl_grow HRe.out HV4.out) HK4.out HNF.out)
          have HQE := Lib.hid (sl_grow HZZ.out hgr)
          obtain rfl : qn = rn := HQE.out.len.symm.trans HRE.out.len
          have HGE : Hid (Grow w wE) := (HGe.out.trans HV4.out).then HK4.out fun x hx e => by
            have h1 := HGe.out.size
            have h2 := HV4.out.size
            have e : v4.heap.size ≤ x ∧ x < b13 := e
            omega
          have CPN : Hid (∀ wv, Grow w wv → Calls Try.prog 22 #[.agg #[.slice AT s.nT cT, .slice AB s.nB cB, .slice AH s.nH cH], .int .i64 p] wv fun e w' => e = .returned (.int .i64 (s.md.pins p : Int)) ∧ Grow wv w') := fun wv hg => by
            obtain ⟨BT, eT, BB, eB, BH, eH, e, hpp⟩ := HSM.out wv hg
            rw [e]
            exact ppins_any hpp HGD0.out p
          clear hE hgr hrb14 hb14 o0 o1 o2 o3 o4 o5 y0 y1 y2 CRD HZZ HSZ HKZ
          have CXP : Hid (∀ wv, Grow wE wv → Calls Try.prog 23 #[.agg #[.slice X1 n1 c1, .slice X2 n2 c2, .slice X3 n3 c3], .int .i64 p] wv fun e w' => e = .returned (.int .i64 (s.md.pins p : Int)) ∧ Grow wv w') := fun wv hg => pins_any (HXE.out.grow hg) p
          generalize (s.md.pins p : Int) = pz at CPN CXP
          have hpz : (pz == pz) = true := by simp
          go_upto_region 11 with (fail)
          refine wp_region_stages (Kept fun _ => False) (kept_refl _) (kept_trans _) [([], 0), ([1, 2, 3], 4), ([5, 6, 7, 8], 9), ([10, 11, 12, 13, 14, 16, 17, 18], 15), ([], 19), ([20, 21, 22, 23, 24], 25)] [26, 27] (by kernel_rfl) (by kernel_rfl) ?_
          simp only [selSt, sel, List.map_cons, List.map_nil, List.getD_cons_succ, List.getD_cons_zero]
          refine st_cons fun K1 hK1 => wpQuiet_nil ?_
          go_wp2_with (go_at_call 10; (with_reducible refine (told_any _).mono ?_); rintro e u1 ⟨rfl, hg⟩; have HGu := Lib.hid hg; clear hg)
          refine norm_up (hK1 _ _ HGu.out (st_cons fun K2 hK2 => ?_))
          clear hK1 K1
          have HU1 : Hid (Grow wE u1) := ((Kept.refl _ wE).drew).trans HGu.out
          have r0 := up_cell (F := fun _ => False) (w := u1) (p := ⟨q + 1, 0, none⟩) ((HE2E.out.grow HU1.out).cell 0) id
          have r1 := up_cell (F := fun _ => False) (w := u1) (p := ⟨q + 1, 1, none⟩) ((HE2E.out.grow HU1.out).cell 1) id
          have r2 := up_cell (F := fun _ => False) (w := u1) (p := ⟨q + 1, 2, none⟩) ((HE2E.out.grow HU1.out).cell 2) id
          have r3 := up_cell (F := fun _ => False) (w := u1) (p := ⟨q + 1, 3, none⟩) ((HE2E.out.grow HU1.out).cell 3) id
          have z0 := up_cell (F := fun _ => False) (w := u1) (p := ⟨b14, 0, none⟩) ((HR14.out.grow HU1.out).cell 0) id
          have z1 := up_cell (F := fun _ => False) (w := u1) (p := ⟨b14, 1, none⟩) ((HR14.out.grow HU1.out).cell 1) id
          have z2 := up_cell (F := fun _ => False) (w := u1) (p := ⟨b14, 2, none⟩) ((HR14.out.grow HU1.out).cell 2) id
          have z3 := up_cell (F := fun _ => False) (w := u1) (p := ⟨b14, 3, none⟩) ((HR14.out.grow HU1.out).cell 3) id
          repeat (go_big_quiet_step (fail))
          refine wpQuiet_nil ?_
          clear r0 r1 r2 r3 z0 z1 z2 z3
          go_wp2_with (go_at_call 20; (with_reducible refine (rsame_true (sl_grow HRE.out HU1.out) (sl_grow HQE.out HU1.out)).mono ?_); rintro e u2 ⟨rfl, hg⟩; have HGu2 := Lib.hid hg; clear hg)
          refine norm_up (hK2 _ _ HGu2.out (st_cons fun K3 hK3 => ?_))
          clear hK2 K2
          have HU2 : Hid (Grow wE u2) := HU1.out.trans HGu2.out
          have y0 := up_cell (F := fun _ => False) (w := u2) (p := ⟨b13, 0, none⟩) ((HY13.out.grow HU2.out).cell 0) id
          have y1 := up_cell (F := fun _ => False) (w := u2) (p := ⟨b13, 1, none⟩) ((HY13.out.grow HU2.out).cell 1) id
          have y2 := up_cell (F := fun _ => False) (w := u2) (p := ⟨b13, 2, none⟩) ((HY13.out.grow HU2.out).cell 2) id
          have e0 := up_cell (F := fun _ => False) (w := u2) (p := ⟨q, 0, none⟩) ((HE1E.out.grow HU2.out).cell 0) id
          have e1 := up_cell (F := fun _ => False) (w := u2) (p := ⟨q, 1, none⟩) ((HE1E.out.grow HU2.out).cell 1) id
          have e2 := up_cell (F := fun _ => False) (w := u2) (p := ⟨q, 2, none⟩) ((HE1E.out.grow HU2.out).cell 2) id
          repeat (go_big_quiet_step (fail))
          refine wpQuiet_nil ?_
          clear y0 y1 y2 e0 e1 e2
          go_wp2_with (go_at_call 21; (with_reducible refine (is_true (HYE.out.grow HU2.out) (HNE.out.grow HU2.out).seen).mono ?_); rintro e u3 ⟨rfl, hg⟩; have HGu3 := Lib.hid hg; clear hg)
          refine norm_up (hK3 _ _ HGu3.out (st_cons fun K4 hK4 => ?_))
          clear hK3 K3
          have HU3 : Hid (Grow wE u3) := HU2.out.trans HGu3.out
          have s0 := up_cell (F := fun _ => False) (w := u3) (p := ⟨m, 0, none⟩) ((HSE.out.grow HU3.out).cell 0) id
          have s1 := up_cell (F := fun _ => False) (w := u3) (p := ⟨m, 1, none⟩) ((HSE.out.grow HU3.out).cell 1) id
          have s2 := up_cell (F := fun _ => False) (w := u3) (p := ⟨m, 2, none⟩) ((HSE.out.grow HU3.out).cell 2) id
          have o1 := up_cell (F := fun _ => False) (w := u3) (p := ⟨m + 1 + 1, 1, none⟩) ((HOE.out.grow HU3.out).cell 1) id
          have x0 := up_cell (F := fun _ => False) (w := u3) (p := ⟨b9, 0, none⟩) ((HX9E.out.grow HU3.out).cell 0) id
          have x1 := up_cell (F := fun _ => False) (w := u3) (p := ⟨b9, 1, none⟩) ((HX9E.out.grow HU3.out).cell 1) id
          have x2 := up_cell (F := fun _ => False) (w := u3) (p := ⟨b9, 2, none⟩) ((HX9E.out.grow HU3.out).cell 2) id
          repeat (go_big_quiet_step (fail))
          refine wpQuiet_nil ?_
          clear s0 s1 s2 o1 x0 x1 x2
          go_wp2_with (go_at_call 22; (with_reducible refine (CPN.out _ (HGE.out.trans HU3.out)).mono ?_); rintro e u4 ⟨rfl, hg⟩; have HGu4 := Lib.hid hg; clear hg)
          refine norm_up (hK4 _ _ HGu4.out (st_cons fun K5 hK5 => wpQuiet_nil ?_))
          clear hK4 K4
          go_wp2_with (go_at_call 23; (with_reducible refine (CXP.out _ (HU3.out.trans HGu4.out)).mono ?_); rintro e u5 ⟨rfl, hg⟩; have HGu5 := Lib.hid hg; clear hg)
          refine norm_up (hK5 _ _ HGu5.out (st_cons fun K6 hK6 => ?_))
          clear hK5 K5
          have HU5 : Hid (Grow wE u5) := (HU3.out.trans HGu4.out).trans HGu5.out
          have r0 := up_cell (F := fun _ => False) (w := u5) (p := ⟨q + 1, 0, none⟩) ((HE2E.out.grow HU5.out).cell 0) id
          have r1 := up_cell (F := fun _ => False) (w := u5) (p := ⟨q + 1, 1, none⟩) ((HE2E.out.grow HU5.out).cell 1) id
          have r2 := up_cell (F := fun _ => False) (w := u5) (p := ⟨q + 1, 2, none⟩) ((HE2E.out.grow HU5.out).cell 2) id
          have r3 := up_cell (F := fun _ => False) (w := u5) (p := ⟨q + 1, 3, none⟩) ((HE2E.out.grow HU5.out).cell 3) id
          have z0 := up_cell (F := fun _ => False) (w := u5) (p := ⟨b14, 0, none⟩) ((HR14.out.grow HU5.out).cell 0) id
          have z1 := up_cell (F := fun _ => False) (w := u5) (p := ⟨b14, 1, none⟩) ((HR14.out.grow HU5.out).cell 1) id
          have z2 := up_cell (F := fun _ => False) (w := u5) (p := ⟨b14, 2, none⟩) ((HR14.out.grow HU5.out).cell 2) id
          have z3 := up_cell (F := fun _ => False) (w := u5) (p := ⟨b14, 3, none⟩) ((HR14.out.grow HU5.out).cell 3) id
          repeat (go_big_quiet_step (fail))
          refine wpQuiet_nil ?_
          clear r0 r1 r2 r3 z0 z1 z2 z3
          go_wp2_with (go_at_call 24; (with_reducible refine (tells_b (b := true) ⟨fun _ => ⟨rfl, rfl, rfl, rfl⟩, fun _ => rfl⟩ (sameRes_any (sl_grow HRE.out HU5.out) (sl_grow HQE.out HU5.out) HRB.out HRB.out)).mono ?_); rintro e u6 ⟨rfl, hg⟩; have HGu6 := Lib.hid hg; clear hg)
          refine norm_up (hK6 _ _ HGu6.out (st_nil fun K7 hK7 => ?_))
          clear hK6 K6
          repeat (go_big_quiet_step (fail))
          refine wpQuiet_nil (hK7 _ ?_)
          clear hK7 K7
          go_wp2
          go_ret
          exact ⟨rfl, Grow.below ((HGE.out.trans HU5.out).trans HGu6.out)⟩
        · have HM := Lib.hid hm
          clear hm
          go_upto_region 4 with (go_at_call 14; (with_reducible refine (CF.out _ HGW.out).mono ?_); rintro e wf ⟨X1, n1, c1, X2, n2, c2, X3, n3, c3, b, rfl, hb, hat, hgf⟩; have HATB := Lib.hid hat; have HBF := Lib.hid hb; have HGF := Lib.hid hgf; clear hb hat hgf)
          have hb0 := HBF.out
          obtain rfl : b = false := (by cases b with | false => rfl | true => exact absurd (hb0.1 rfl) HM.out)
          clear hb0
          obtain ⟨hgx, hxb, _⟩ := s_box wf (.slice X1 n1 c1) (.slice X2 n2 c2) (.slice X3 n3 c3)
          obtain ⟨b9, hb9⟩ : ∃ x, x = wf.heap.size := ⟨_, rfl⟩
          rw [← hb9] at hxb ⊢
          generalize wf.alloc (.cells #[.slice X1 n1 c1, .slice X2 n2 c2, .slice X3 n3 c3] 41) = wx at hgx hxb ⊢
          have HGX : Hid (Grow wg wx) := HGF.out.trans hgx
          have HX9 := Lib.hid hxb
          have HSx := Lib.hid (HS1.out.grow HGX.out)
          have HTx := Lib.hid (HT1.out.grow HGX.out)
          have HOx := Lib.hid (HO1.out.grow HGX.out)
          have HGx : Hid (Grow w wx) := HGW.out.trans HGX.out

          clear hgx hxb hb9 s0 s1 s2 CF HATB HBF HGF
          have s0 := HSx.out.cell 0
          have s1 := HSx.out.cell 1
          have s2 := HSx.out.cell 2
          have o0 := HOx.out.cell 0
          have o1 := HOx.out.cell 1
          have o2 := HOx.out.cell 2
          have o3 := HOx.out.cell 3
          have o4 := HOx.out.cell 4
          have o5 := HOx.out.cell 5
          simp only [List.getElem?_cons_zero, List.getElem?_cons_succ] at s0 s1 s2 o0 o1 o2 o3 o4 o5
          have HDO : Hid (Calls Try.prog 12 #[.agg #[.slice AT s.nT cT, .slice AB s.nB cB, .slice AH s.nH cH], .int .i64 a2, .agg #[.int .i64 k, .int .i64 p, .int .i64 h, .int .i64 o, .int .i64 n, .slice A len cap]] wx (DoBad s wx)) := mdo_bad (HSS.out _ HGx.out) HFS.out HM.out a2 (o := ⟨k, p, h, o, n, d⟩) ⟨A, len, cap, rfl, sl_grow HD.out.1 HGx.out, HD.out.2.1, HD.out.2.2.1, HD.out.2.2.2.1⟩
          go_upto_region 5 with (go_at_call 12; (with_reducible refine HDO.out.mono ?_); rintro e wd ⟨sv, rv, rfl, hse, rfl, hgd⟩; have HSE := Lib.hid hse; obtain ⟨BT, eT, BB, eB, BH, eH, rfl, _⟩ := hse; have HGD := Lib.hid hgd; clear hgd)
          clear s0 s1 s2 o0 o1 o2 o3 o4 o5
          obtain ⟨ht1, ht2, hgt⟩ := two_box wd (.slice BT s.nT eT) (.slice BB s.nB eB) (.slice BH s.nH eH) (.int .i64 1) (.int .i64 0) (.int .i64 0) (.slice none 0 0)
          obtain ⟨q, hq⟩ : ∃ q, q = wd.heap.size := ⟨_, rfl⟩
          rw [← hq] at ht1 ht2 ⊢
          generalize (wd.alloc (.cells #[.slice BT s.nT eT, .slice BB s.nB eB, .slice BH s.nH eH] 28)).alloc (.cells #[.int .i64 1, .int .i64 0, .int .i64 0, .slice none 0 0] 31) = we at ht1 ht2 hgt ⊢
          have HGE0 : Hid (Grow wx we) := HGD.out.trans hgt
          have HE1 := Lib.hid ht1
          have HE2 := Lib.hid ht2
          have HSEe := Lib.hid (HSE.out.grow hgt)
          have HSe := Lib.hid (HSx.out.grow HGE0.out)
          have HTe := Lib.hid (HTx.out.grow HGE0.out)
          have HGe : Hid (Grow w we) := HGx.out.trans HGE0.out
          clear hq ht1 ht2 hgt HDO HSE HGD
          have HGd : Hid (Grow w we.drew) := HGe.out.drew
          have CMY : Hid (∀ wx, Grow w wx → Calls Try.prog 15 #[.agg #[.slice AT s.nT cT, .slice AB s.nB cB, .slice AH s.nH cH]] wx fun e w' => e = .returned (.bool false) ∧ Grow wx w') := fun wx hg => tells_b ⟨fun e => Bool.noConfusion e, fun e => absurd e HM.out⟩ (may_any (HPS.out.grow hg) HFS.out)
          have hbx : (bb != bb) = false := by cases bb <;> rfl
          have s0 := up_cell (F := fun _ => False) (w := we.drew) (p := ⟨m, 0, none⟩) (HSe.out.drew.cell 0) id
          have s1 := up_cell (F := fun _ => False) (w := we.drew) (p := ⟨m, 1, none⟩) (HSe.out.drew.cell 1) id
          have s2 := up_cell (F := fun _ => False) (w := we.drew) (p := ⟨m, 2, none⟩) (HSe.out.drew.cell 2) id
          go_upto_region 5 with (fail)
          refine wp_region_stages (Kept fun _ => False) (kept_refl _) (kept_trans _) [([0, 2], 1), ([3, 4, 5, 6, 8, 9], 7), ([], 10), ([11, 12, 13, 14, 15], 16)] [17, 18] (by kernel_rfl) (by kernel_rfl) ?_
          simp only [selSt, sel, List.map_cons, List.map_nil, List.getD_cons_succ, List.getD_cons_zero]
          refine st_cons fun K1 hK1 => ?_
          repeat (go_big_quiet_step (fail))
          refine wpQuiet_nil ?_
          clear s0 s1 s2
          go_wp2_with (go_at_call 15; (with_reducible refine (CMY.out _ HGd.out).mono ?_); rintro e v1 ⟨rfl, hg⟩; have HGv := Lib.hid hg; clear hg)
          refine norm_up (hK1 _ _ HGv.out (st_cons fun K2 hK2 => ?_))
          clear hK1 K1
          have HV1 : Hid (Grow we v1) := ((Kept.refl _ we).drew).trans HGv.out
          have s0 := up_cell (F := fun _ => False) (w := v1) (p := ⟨m, 0, none⟩) ((HSe.out.grow HV1.out).cell 0) id
          have s1 := up_cell (F := fun _ => False) (w := v1) (p := ⟨m, 1, none⟩) ((HSe.out.grow HV1.out).cell 1) id
          have s2 := up_cell (F := fun _ => False) (w := v1) (p := ⟨m, 2, none⟩) ((HSe.out.grow HV1.out).cell 2) id
          have t0 := up_cell (F := fun _ => False) (w := v1) (p := ⟨m + 1, 0, none⟩) ((HTe.out.grow HV1.out).cell 0) id
          have t1 := up_cell (F := fun _ => False) (w := v1) (p := ⟨m + 1, 1, none⟩) ((HTe.out.grow HV1.out).cell 1) id
          have t2 := up_cell (F := fun _ => False) (w := v1) (p := ⟨m + 1, 2, none⟩) ((HTe.out.grow HV1.out).cell 2) id
          repeat (go_big_quiet_step (fail))
          refine wpQuiet_nil ?_
          clear s0 s1 s2 t0 t1 t2
          go_wp2_with (go_at_call 16; (with_reducible refine (CSA.out _ (HGe.out.trans HV1.out)).mono ?_); rintro e v2 ⟨rfl, hg⟩; have HGv2 := Lib.hid hg; clear hg)
          refine norm_up (hK2 _ _ HGv2.out (st_cons fun K3 hK3 => wpQuiet_nil ?_))
          clear hK2 K2
          go_wp2_with (go_at_call 17; (with_reducible refine (CSB.out _ ((HGe.out.trans HV1.out).trans HGv2.out)).mono ?_); rintro e v3 ⟨rfl, hg⟩; have HGv3 := Lib.hid hg; clear hg)
          refine norm_up (hK3 _ _ HGv3.out (st_cons fun K4 hK4 => ?_))
          clear hK3 K3
          have HV3 : Hid (Grow we v3) := (HV1.out.trans HGv2.out).trans HGv3.out
          have s0 := up_cell (F := fun _ => False) (w := v3) (p := ⟨m, 0, none⟩) ((HSe.out.grow HV3.out).cell 0) id
          have s1 := up_cell (F := fun _ => False) (w := v3) (p := ⟨m, 1, none⟩) ((HSe.out.grow HV3.out).cell 1) id
          have s2 := up_cell (F := fun _ => False) (w := v3) (p := ⟨m, 2, none⟩) ((HSe.out.grow HV3.out).cell 2) id
          repeat (go_big_quiet_step (fail))
          refine wpQuiet_nil ?_
          clear s0 s1 s2
          go_wp2_with (go_at_call 16; (with_reducible refine (CSC.out _ (HGe.out.trans HV3.out)).mono ?_); rintro e v4 ⟨rfl, hg⟩; have HGv4 := Lib.hid hg; clear hg)
          refine norm_up (hK4 _ _ HGv4.out (st_nil fun K5 hK5 => ?_))
          clear hK4 K4
          repeat (go_big_quiet_step (fail))
          refine wpQuiet_nil (hK5 _ ?_)
          clear hK5 K5
          have HV4 : Hid (Grow we v4) := HV3.out.trans HGv4.out
          have CSD : Hid (∀ wy, Grow we wy → Calls Try.prog 16 #[.agg #[.slice BT s.nT eT, .slice BB s.nB eB, .slice BH s.nH eH], .agg #[.slice AT s.nT cT, .slice AB s.nB cB, .slice AH s.nH cH]] wy fun e w' => e = .returned (.bool true) ∧ Grow wy w') := fun wy hg => tells_b ⟨fun _ => same_refl s, fun _ => rfl⟩ (same_any (HSEe.out.grow hg) (HSS.out wy (HGe.out.trans hg)) HFS.out)
          go_wp2_with (first
            | (go_at_call 10; (with_reducible refine (told_any _).mono ?_); rintro e v5 ⟨rfl, hge⟩; have HV5 : Hid (Grow we v5) := HV4.out.trans hge; have r0 := (HE2.out.grow HV5.out).cell 0; have he := HE1.out.grow HV5.out; have e0 := he.cell 0; have e1 := he.cell 1; have e2 := he.cell 2; have hs := HSe.out.grow HV5.out; have s0 := hs.cell 0; have s1 := hs.cell 1; have s2 := hs.cell 2; simp only [List.getElem?_cons_zero, List.getElem?_cons_succ] at r0 e0 e1 e2 s0 s1 s2; clear hge he hs)
            | (go_at_call 16; (with_reducible refine (CSD.out _ HV5.out).mono ?_); rintro e v6 ⟨rfl, hg6⟩; have HG6 := Lib.hid hg6; clear hg6))
          go_ret
          exact ⟨rfl, Grow.below ((HGe.out.trans HV5.out).trans HG6.out)⟩
    · go_wp2_with (first
        | (go_at_call 13; (with_reducible refine (CFS.out true ⟨fun _ => HFS.out, fun _ => rfl⟩ _ HGB.out).mono ?_); rintro e wf ⟨rfl, hg⟩; have HG1 := Lib.hid hg; have ht := HT0.out.grow hg; have t0 := ht.cell 0; have t1 := ht.cell 1; have t2 := ht.cell 2; simp only [List.getElem?_cons_zero, List.getElem?_cons_succ] at t0 t1 t2; clear hg ht)
        | (go_at_call 13; (with_reducible refine (CFT.out false ⟨fun e => Bool.noConfusion e, fun e => absurd e hft⟩ _ (HGB.out.trans HG1.out)).mono ?_); rintro e wg ⟨rfl, hg⟩; have HG2 := Lib.hid hg; clear hg)
        | (go_at_call 10; (with_reducible refine (told_any _).mono ?_); rintro e wt ⟨rfl, hge⟩; have HGE := Lib.hid hge; clear hge))
      go_ret
      exact ⟨rfl, Grow.below (((HGB.out.trans HG1.out).trans HG2.out).trans HGE.out)⟩
  · go_wp2_with (first
      | (go_at_call 13; (with_reducible refine (CFS.out false ⟨fun e => Bool.noConfusion e, fun e => absurd e hfs⟩ _ HGB.out).mono ?_); rintro e wf ⟨rfl, hg⟩; have HG1 := Lib.hid hg; clear hg)
      | (go_at_call 10; (with_reducible refine (told_any _).mono ?_); rintro e wt ⟨rfl, hge⟩; have HGE := Lib.hid hge; clear hge))
    go_ret
    exact ⟨rfl, Grow.below ((HGB.out.trans HG1.out).trans HGE.out)⟩

set_option maxRecDepth 100000 in
theorem lifted (os : Os) (started : os.Started) (H : Type) (enc : TypeId × Value → H) :
    ReturnsInHanded {} Try.checked os 4 .any (Rows.modelAsksSpec.pre6 enc Try.prog Try.f4 Rows.modelAsksRow.domain false) (Rows.modelAsksSpec.post enc Try.prog Try.f4 false true false false) := by
  refine returnsInHanded_of_change (C := Try.checked) own started (by kernel_rfl) Try.func4
    (ChangeSpec.witness6 (enc := enc) (C := Try.checked) false ⟨#[], #[.agg #[.slice none 0 0, .slice none 0 0, .slice none 0 0], .agg #[.slice none 0 0, .slice none 0 0, .slice none 0 0], .int .i64 0, .agg #[.int .i64 0, .int .i64 0, .int .i64 0, .int .i64 0, .int .i64 0, .slice none 0 0]], []⟩ 8 (by kernel_rfl) (by kernel_rfl) (by kernel_rfl) (by kernel_rfl)) ?_
  intro W base args ds gs before hval0 hW hcnd _
  have hval : ∀ (j : Nat) t v, Try.f4.params[j]? = some t → args[j]? = some v → Value.okWide Try.prog W .any base t v := hval0
  have hW' := hW
  obtain ⟨p, q, hA0, hV, rfl, hfz, hnd⟩ := hW
  have hA : DataW.TrodAll enc Try.prog W 0 (fun _ => true) true Try.f4.params.toList args.toList ds p := hA0
  rw [Try.params4] at hA hval
  obtain ⟨v0, vs0, d0, ds0, p0, q0, hargs, rfl, rfl, h0, r0⟩ := trodAll_cons hA
  obtain ⟨v1, vs1, d1, ds1, p1, q1, rfl, rfl, rfl, h1, r1⟩ := trodAll_cons r0
  obtain ⟨v2, vs2, d2, ds2, p2, q2, rfl, rfl, rfl, h2, r2⟩ := trodAll_cons r1
  obtain ⟨v3, vs3, d3, ds3, p3, q3, rfl, rfl, rfl, h3, r3⟩ := trodAll_cons r2
  obtain ⟨rfl, rfl, rfl⟩ := trodAll_nil r3
  obtain rfl : args = #[v0, v1, v2, v3] := by cases args; simp_all
  obtain ⟨rfl, rfl⟩ := trodVars_none hV
  obtain ⟨cs0, rfl, hcs0⟩ := okWide_struct Try.underlying28 (hval 0 28 v0 rfl rfl)
  have k0 := h0
  have lt0 : ∀ x ∈ p0, x.block < W.heap.size := by obtain ⟨m, hm⟩ := k0; exact DataW.trod_lt m _ _ _ hm
  have w0 : StArg W (.agg cs0) := by
    obtain ⟨fuel, hf⟩ := h0
    have e : Try.prog.cellsOf 28 = 3 := by kernel_rfl
    exact state_open (cs := cs0.toList) (by rw [Array.length_toList, hcs0, e]) hf
  obtain ⟨cs1, rfl, hcs1⟩ := okWide_struct Try.underlying28 (hval 1 28 v1 rfl rfl)
  have k1 := h1
  have lt1 : ∀ x ∈ p1, x.block < W.heap.size := by obtain ⟨m, hm⟩ := k1; exact DataW.trod_lt m _ _ _ hm
  have w1 : StArg W (.agg cs1) := by
    obtain ⟨fuel, hf⟩ := h1
    have e : Try.prog.cellsOf 28 = 3 := by kernel_rfl
    exact state_open (cs := cs1.toList) (by rw [Array.length_toList, hcs1, e]) hf
  obtain ⟨a2, rfl, rfl, rfl, w2⟩ := open_int Try.underlying3 (hval 2 3 v2 rfl rfl) h2
  obtain ⟨cs3, rfl, hcs3⟩ := okWide_struct Try.underlying35 (hval 3 35 v3 rfl rfl)
  have k3 := h3
  have lt3 : ∀ x ∈ p3, x.block < W.heap.size := by obtain ⟨m, hm⟩ := k3; exact DataW.trod_lt m _ _ _ hm
  have w3 : OpArg W (.agg cs3) := by
    obtain ⟨fuel, hf⟩ := h3
    have e : Try.prog.cellsOf 35 = 6 := by kernel_rfl
    exact op_open (cs := cs3.toList) (by rw [Array.length_toList, hcs3, e]) hf
  clear hA0 hval0
  refine (walk (.agg cs0) (.agg cs1) a2 (.agg cs3) W w0 w1 w2 w3).mono fun e W' ⟨he, bel⟩ => ?_
  subst he
  exact ⟨_, rfl, _, _, _, [], _, [], hW', trodAll_mk1 (shut_bool Try.underlying4 _), (trodAll_cons_mk (Below.trod laidOut (by kernel_rfl) (of_decide_eq_true (by kernel_rfl)) k0 bel lt0) (trodAll_cons_mk (Below.trod laidOut (by kernel_rfl) (of_decide_eq_true (by kernel_rfl)) k1 bel lt1) (trodAll_cons_mk (shut_int Try.underlying3 w2) (trodAll_cons_mk (Below.trod laidOut (by kernel_rfl) (of_decide_eq_true (by kernel_rfl)) k3 bel lt3) trodAll_mk0)))), rfl, bel.frame _, fun h => by cases h⟩

theorem over : Rows.modelAsksRow.holds Try.pinned (OpenSpec.ofChange Rows.modelAsksSpec) :=
  OpenClaim.holds_of_wide 4 Try.f4 rfl rfl rfl rfl rfl rfl rfl ⟨rfl, rfl, rfl, rfl, rfl⟩ rfl rfl rfl rfl rfl (by kernel_rfl) Try.func4 (by kernel_rfl)
    (of_decide_eq_true (by kernel_rfl)) (by unfold Func.isWrapper; first | (rw [if_pos (by decide +kernel)]; kernel_rfl) | (rw [if_neg (by decide +kernel)]; exact ⟨rfl, rfl⟩))
    (fun os started H enc _ => lifted os started H enc)

/-- ████ THE STATEMENT ████ -/
theorem proved : Rows.ModelAsksSaid := over
#print axioms proved
end Go.Proofs.Yteiodnclpbjbbaa.modelAsks
