/-
  Package model: bodiesMay, handlesMay, May.
-/
import Derived.Test.YtjdlpknflhgkfaaPmIn
import Derived.Deep.CutBlock
import Derived.Deep.QuietTactic
import Derived.BigQuiet
namespace Go.Proofs.Ytjdlpknflhgkfaa.PmM
open Go.ChangeShapes Go.WideShapes Go.ChangeAt Go.RowKit
open Go.Proofs.Ytjdlpknflhgkfaa.Mem Go.Proofs.Ytjdlpknflhgkfaa.Blk Go.Proofs.Ytjdlpknflhgkfaa.Cells Go.Proofs.Ytjdlpknflhgkfaa.Orow Go.Proofs.Ytjdlpknflhgkfaa.MdM Go.Proofs.Ytjdlpknflhgkfaa.PmC Go.Proofs.Ytjdlpknflhgkfaa.PmI Go.Proofs.Ytjdlpknflhgkfaa.Stages

/-- A truth is told, and nothing that was there has turned. -/
def Tells (p : Prop) (w : World) (e : Ending) (w' : World) : Prop := (∃ b, e = .returned (.bool b) ∧ (b = true ↔ p)) ∧ Grow w w'
theorem Tells.no {p : Prop} {w w' : World} (h : ¬ p) (hg : Grow w w') : Tells p w (.returned (.bool false)) w' := ⟨⟨false, rfl, fun x => Bool.noConfusion x, fun x => absurd x h⟩, hg⟩
theorem Tells.yes {p : Prop} {w w' : World} (h : p) (hg : Grow w w') : Tells p w (.returned (.bool true)) w' := ⟨⟨true, rfl, fun _ => h, fun _ => rfl⟩, hg⟩
section
variable {w w' : World} {AT AB AH : Option Addr} {cT cB cH : Nat} {s : St}
theorem okP_code (s : St) (x : Int) : s.okP x ↔ x = -1 ∨ codeOf s.nT s.T x = 0 := by
  unfold St.okP
  constructor
  · rintro (e | ⟨h1, h2⟩)
    · exact .inl e
    · right
      unfold codeOf
      rw [if_neg (fun y => y h1), if_neg (by rw [h2]; simp)]
  · rintro (e | h)
    · exact .inl e
    · right
      obtain ⟨q, rfl, hq, hT⟩ := code_zero h
      exact ⟨by omega, by rw [Int.toNat_natCast]; exact hT⟩
theorem all_zero {l : List Int} (h : ∀ t, t < l.length → l.getD t 0 = 0) : ∀ c ∈ l, c = 0 := fun c hc => by
  obtain ⟨i, hi, rfl⟩ := List.getElem_of_mem hc
  have := h i hi
  rw [List.getD_eq_getElem?_getD, List.getElem?_eq_getElem hi] at this
  exact this
theorem not_zero {l : List Int} {t : Nat} (ht : t < l.length) (h : l.getD t 0 ≠ 0) : ¬ ∀ c ∈ l, c = 0 := fun hz => by
  rw [List.getD_eq_getElem?_getD, List.getElem?_eq_getElem ht] at h
  exact h (hz _ (List.getElem_mem ht))
/-- A row of a slice of slices. -/
theorem lists_form {k : IntKind} {A : Option Addr} {n : Nat} {L : Nat → List Int} (h : Lists w k A n L) : ∃ b off, (0 < n → A = some ⟨b, off, none⟩) ∧ ∀ i, i < n → ∃ A' c, w.cell? ⟨b, off + i, none⟩ = some (.slice A' (L i).length c) ∧ Sl w w.heap.size k A' (L i).length (L i) := by
  by_cases h0 : 0 < n
  · obtain ⟨b, off, e, h⟩ := h h0
    exact ⟨b, off, fun _ => e, h⟩
  · exact ⟨0, 0, fun x => absurd x h0, fun i hi => by omega⟩
theorem flags_form {A : Option Addr} {n : Nat} {T : Nat → Bool} (h : Flags w A n T) : ∃ b off, (0 < n → A = some ⟨b, off, none⟩) ∧ ∀ i, i < n → w.cell? ⟨b, off + i, none⟩ = some (.bool (T i)) := by
  by_cases h0 : 0 < n
  · obtain ⟨b, off, e, h⟩ := h h0
    exact ⟨b, off, fun _ => e, h⟩
  · exact ⟨0, 0, fun x => absurd x h0, fun i hi => by omega⟩
set_option maxHeartbeats 4000000 in
theorem bodies_any (hp : Parts w AT cT AB cB AH cH s) (hn : s.nB = s.nT) (h60 : s.nB ≤ 60) : Calls Try.prog 65 #[stv AT cT AB cB AH cH s] w (Tells (∀ i, i < s.nB → s.okB i) w) := by
  unfold stv
  have hb := Blk.new w 39 [.slice AT s.nT cT, .slice AB s.nB cB, .slice AH s.nH cH]
  have s0 := hb.cell 0
  have s1 := hb.cell 1
  simp only [List.getElem?_cons_zero, List.getElem?_cons_succ] at s0 s1
  have HG9 : Hid (Grow w (w.alloc (.cells #[.slice AT s.nT cT, .slice AB s.nB cB, .slice AH s.nH cH] 39))) := (Kept.refl _ _).alloc _
  obtain ⟨fb, fo, fe, hf⟩ := flags_form (hp.T.grow HG9.out)
  obtain ⟨rb, ro, re, hr⟩ := lists_form (hp.B.grow HG9.out)
  have HF := Lib.hid fe
  have HR := Lib.hid re
  have HFC := Lib.hid hf
  have HRC := Lib.hid hr
  have hnz : (s.nB : Int) ≤ 60 := by omega
  rw [← hn] at s0 HF HFC
  rw [← hn]
  have HG0 : Hid (Grow w (w.alloc (.cells #[.slice AT s.nB cT, .slice AB s.nB cB, .slice AH s.nH cH] 39))) := (Kept.refl _ _).alloc _
  rw [← hn] at s1 HRC
  clear hb hp hn fe hf re hr h60 HG9
  go_enter Try.func65, Try.ntmps65
  go_upto_region 1 with (fail)
  generalize w.alloc (.cells #[.slice AT s.nB cT, .slice AB s.nB cB, .slice AH s.nH cH] 39) = w0 at *
  go_wp2
  go_step3
  go_wp2
  go_step3
  go_wp2
  go_loopg [3, 11] s.nB (fun gx v i wr => ∃ j : Nat, j + gx = s.nB ∧ i = .int .i64 (j : Int) ∧ v = .bool true ∧ w0 = wr ∧ ∀ t, t < j → s.okB t)
  case atStart => exact ⟨0, by omega, rfl, rfl, rfl, fun t h => absurd h (Nat.not_lt_zero t)⟩
  case round =>
    obtain ⟨j, hg, rfl, rfl, rfl, hok⟩ := hrel
    have HG := Lib.hid hg
    have HOK := Lib.hid hok
    clear hg hok
    by_cases hj : j < s.nB
    · have hjz : (j : Int) < (s.nB : Int) := by omega
      have HJ := Lib.hid hj
      obtain rfl := HF.out (by omega)
      obtain rfl := HR.out (by omega)
      have f1 := HFC.out j hj
      obtain ⟨A', c', r1, hsl⟩ := HRC.out j hj
      by_cases h16 : (s.B j).length = 16
      · rw [h16] at r1 hsl
        cases hT : s.T j with
        | true =>
          have HE : Hid (s.okB j) := ⟨h16, fun x => by rw [hT] at x; cases x⟩
          rw [hT] at f1
          clear hj h16 hT hsl
          go_wp2
          go_roundg (gk - 1)
          case measure => have := HG.out; have := HJ.out; omega
          case rel => exact ⟨j + 1, by have := HG.out; have := HJ.out; omega, by go_num, rfl, rfl, fun t ht => by
            by_cases e : t = j
            · subst e; exact HE.out
            · exact HOK.out t (by omega)⟩
        | false =>
          obtain ⟨bb, oo, rfl, _, hc⟩ := hsl.at_ (by omega)
          have HC := Lib.hid hc
          have H16 := Lib.hid h16
          have HT := Lib.hid hT
          rw [hT] at f1
          clear hj h16 hT hsl hc
          go_wp2
          go_loopg [3, 28] 16 (fun gx v i wr => ∃ k : Nat, k + gx = 16 ∧ i = .int .i64 (k : Int) ∧ v = .bool true ∧ w0 = wr ∧ ∀ t, t < k → (s.B j).getD t 0 = 0)
          case atStart => exact ⟨0, by omega, rfl, rfl, rfl, fun t h => absurd h (Nat.not_lt_zero t)⟩
          case round =>
            obtain ⟨k, hg, rfl, rfl, rfl, hz⟩ := hrel
            have HK := Lib.hid hg
            have HZ := Lib.hid hz
            clear hg hz
            by_cases hk : k < 16
            · have hkz : (k : Int) < 16 := by omega
              have e1 := HC.out k hk
              by_cases h0 : (s.B j).getD k 0 = 0
              · have H0 := Lib.hid h0
                rw [h0] at e1
                clear h0 hk
                go_wp2
                go_roundg (gk - 1)
                case measure => have := HK.out; omega
                case rel => exact ⟨k + 1, by have := HK.out; omega, by go_num, rfl, rfl, fun t ht => by
                  by_cases e : t = k
                  · subst e; exact H0.out
                  · exact HZ.out t (by omega)⟩
              · have HB : Hid (¬ ∀ i, i < s.nB → s.okB i) := fun x => not_zero (by rw [H16.out]; omega) h0 ((x j HJ.out).2 HT.out)
                have hne : ((s.B j).getD k 0 != 0) = true := by simpa using h0
                generalize (s.B j).getD k 0 = z at e1 hne
                clear h0 hk
                go_wp2
                rw [Exit.noGoto_ret]
                go_ret
                exact Tells.no HB.out (HG0.out)
            · obtain rfl : k = 16 := by have := HK.out; omega
              have HE : Hid (s.okB j) := ⟨H16.out, fun _ => all_zero fun t ht => HZ.out t (by rw [H16.out] at ht; omega)⟩
              clear hk
              go_wp2
              go_roundg (s.nB - (j + 1))
              case measure => have := HG.out; have := HJ.out; omega
              case rel => exact ⟨j + 1, by have := HG.out; have := HJ.out; omega, by go_num, rfl, rfl, fun t ht => by
                by_cases e : t = j
                · subst e; exact HE.out
                · exact HOK.out t (by omega)⟩
      · have HB : Hid (¬ ∀ i, i < s.nB → s.okB i) := fun x => h16 (x j hj).1
        have hne : (((s.B j).length : Int) != 16) = true := by simp; omega
        generalize (s.B j).length = m at r1 hne hsl h16
        have hm : ((m : Int) == 16) = false := by simp; omega
        clear hj h16 hsl
        go_wp2
        try rw [Exit.noGoto_ret]
        go_ret
        exact Tells.no HB.out (HG0.out)
    · obtain rfl : j = s.nB := by have := HG.out; omega
      clear hj
      go_wp2
      rw [Exit.noGoto_ret]
      go_ret
      exact Tells.yes HOK.out (HG0.out)
set_option maxHeartbeats 4000000 in
theorem handles_any (hp : Parts w AT cT AB cB AH cH s) (h60 : s.nH ≤ 60) : Calls Try.prog 66 #[stv AT cT AB cB AH cH s] w (Tells (∀ i, i < s.nH → s.okH i) w) := by
  unfold stv
  have hb := Blk.new w 39 [.slice AT s.nT cT, .slice AB s.nB cB, .slice AH s.nH cH]
  have HG0 : Hid (Grow w (w.alloc (.cells #[.slice AT s.nT cT, .slice AB s.nB cB, .slice AH s.nH cH] 39))) := (Kept.refl _ _).alloc _
  have HFL := Lib.hid (hp.T.grow HG0.out)
  obtain ⟨rb, ro, re, hr⟩ := lists_form (hp.H.grow HG0.out)
  have HR := Lib.hid re
  have HRC := Lib.hid hr
  have HB0 := Lib.hid hb
  have hnz : (s.nH : Int) ≤ 60 := by omega
  clear hb hp re hr h60
  go_enter Try.func66, Try.ntmps66
  go_upto_region 1 with (fail)
  generalize w.alloc (.cells #[.slice AT s.nT cT, .slice AB s.nB cB, .slice AH s.nH cH] 39) = w0 at *
  generalize w.heap.size = sb at HB0 ⊢
  have s2 := HB0.out.cell 2
  simp only [List.getElem?_cons_zero, List.getElem?_cons_succ] at s2
  go_wp2
  clear s2
  go_loopg [10] s.nH (fun gx i wr => ∃ j : Nat, j + gx = s.nH ∧ i = .int .i64 (j : Int) ∧ Grow w0 wr ∧ ∀ t, t < j → s.okH t)
  case atStart => exact ⟨0, by omega, rfl, Kept.refl _ _, fun t h => absurd h (Nat.not_lt_zero t)⟩
  case round =>
    obtain ⟨j, hg, rfl, hgr, hok⟩ := hrel
    have HG := Lib.hid hg
    have HOK := Lib.hid hok
    have HGR := Lib.hid hgr
    clear hg hok hgr
    obtain ⟨wq, rfl⟩ : ∃ wq, wq = wr := ⟨_, rfl⟩
    by_cases hj : j < s.nH
    · have hjz : (j : Int) < (s.nH : Int) := by omega
      have HJ := Lib.hid hj
      obtain rfl := HR.out (by omega)
      obtain ⟨A', c', r0, hsl0⟩ := HRC.out j hj
      have r1 := HGR.out.cellN r0 id
      clear r0
      by_cases h6 : (s.H j).length = 6
      · rw [h6] at r1 hsl0
        obtain ⟨bb, oo, rfl, _, hc⟩ := hsl0.at_ (by omega)
        have HC := Lib.hid hc
        have H6 := Lib.hid h6
        clear hj h6 hsl0 hc
        go_wp2
        go_loopg [19] 6 (fun gx i wr => ∃ k : Nat, k + gx = 6 ∧ i = .int .i64 (k : Int) ∧ Grow w0 wr ∧ ∀ t, t < k → s.okP ((s.H j).getD t 0))
        case atStart => exact ⟨0, by omega, rfl, HGR.out, fun t h => absurd h (Nat.not_lt_zero t)⟩
        case round =>
          obtain ⟨k, hg, rfl, hgr2, hz⟩ := hrel
          have HK := Lib.hid hg
          have HZ := Lib.hid hz
          have HGR2 := Lib.hid hgr2
          clear hg hz hgr2
          obtain ⟨wp, rfl⟩ : ∃ wp, wp = wr := ⟨_, rfl⟩
          by_cases hk : k < 6
          · have hkz : (k : Int) < 6 := by omega
            have e1 := HGR2.out.cellN (HC.out k hk) id
            have q0 := (HB0.out.grow HGR2.out).cell 0
            have q1 := (HB0.out.grow HGR2.out).cell 1
            have q2 := (HB0.out.grow HGR2.out).cell 2
            simp only [List.getElem?_cons_zero, List.getElem?_cons_succ] at q0 q1 q2
            have HNB := Lib.hid fun (h : ¬ s.okP ((s.H j).getD k 0)) => (fun x => h ((x j HJ.out).2 k hk) : ¬ ∀ i, i < s.nH → s.okH i)
            have HNX := Lib.hid fun (h : s.okP ((s.H j).getD k 0)) => (fun t ht => by
              by_cases e : t = k
              · subst e; exact h
              · exact HZ.out t (by omega) : ∀ t, t < k + 1 → s.okP ((s.H j).getD t 0))
            have HFI := Lib.hid (find_any (w := wp) (cT := cT) (nB := s.nB) (cB := cB) (AB := AB) (AH := some ⟨rb, ro, none⟩) (nH := s.nH) (cH := cH) (HFL.out.grow HGR2.out) ((s.H j).getD k 0))
            generalize (s.H j).getD k 0 = z at e1 HNB HNX HFI
            by_cases hm : z = -1
            · have HOKZ := Lib.hid (HNX.out (.inl hm))
              subst hm
              clear hk HNB HNX
              go_wp2
              go_roundg (gk - 1)
              case measure => have := HK.out; omega
              case rel => exact ⟨k + 1, by have := HK.out; omega, by go_num, HGR2.out, HOKZ.out⟩
            · have hmb : (z != -1) = true := by simpa using hm
              have hmc : (z == -1) = false := by simpa using hm
              by_cases hco : codeOf s.nT s.T z = 0
              · have HOKZ := Lib.hid (HNX.out ((okP_code _ _).2 (.inr hco)))
                rw [hco] at HFI
                clear hk HNB HNX hm hco
                go_wp2_with (go_at_call 72; (with_reducible refine HFI.out.mono ?_); rintro e wf ⟨rfl, hgf⟩; have HGF := Lib.hid (HGR2.out.trans hgf); clear hgf)
                go_roundg (gk - 1)
                case measure => have := HK.out; omega
                case rel => exact ⟨k + 1, by have := HK.out; omega, by go_num, HGF.out, HOKZ.out⟩
              · have HBAD := Lib.hid (HNB.out fun x => by
                  rcases (okP_code _ _).1 x with e | e
                  · exact hm e
                  · exact hco e)
                have hcb : (codeOf s.nT s.T z != 0) = true := by simpa using hco
                have hcc : (codeOf s.nT s.T z == 0) = false := by simpa using hco
                generalize codeOf s.nT s.T z = cz at HFI hcb hcc
                clear hk HNB HNX hm hco
                go_wp2_with (go_at_call 72; (with_reducible refine HFI.out.mono ?_); rintro e wf ⟨rfl, hgf⟩; have HGF := Lib.hid (HGR2.out.trans hgf); clear hgf)
                go_ret
                exact Tells.no HBAD.out (HG0.out.trans HGF.out)
          · obtain rfl : k = 6 := by have := HK.out; omega
            have HE : Hid (s.okH j) := ⟨H6.out, HZ.out⟩
            clear hk
            go_wp2
            go_roundg (s.nH - (j + 1))
            case measure => have := HG.out; have := HJ.out; omega
            case rel => exact ⟨j + 1, by have := HG.out; have := HJ.out; omega, by go_num, HGR2.out, fun t ht => by
              by_cases e : t = j
              · subst e; exact HE.out
              · exact HOK.out t (by omega)⟩
      · have HB : Hid (¬ ∀ i, i < s.nH → s.okH i) := fun x => h6 (x j hj).1
        have hne : (((s.H j).length : Int) != 6) = true := by simp; omega
        have hm : (((s.H j).length : Int) == 6) = false := by simp; omega
        generalize (s.H j).length = m at r1 hne hm hsl0 h6
        clear hj h6 hsl0
        go_wp2
        go_ret
        exact Tells.no HB.out (HG0.out.trans HGR.out)
    · obtain rfl : j = s.nH := by have := HG.out; omega
      clear hj
      go_wp2
      go_ret
      exact Tells.yes HOK.out (HG0.out.trans HGR.out)
set_option maxHeartbeats 4000000 in
theorem may_any (hp : Parts w AT cT AB cB AH cH s) (hf : s.few) : Calls Try.prog 41 #[stv AT cT AB cB AH cH s] w (Tells (s.may) w) := by
  have hb := Blk.new w 39 [.slice AT s.nT cT, .slice AB s.nB cB, .slice AH s.nH cH]
  have HG0 : Hid (Grow w (w.alloc (.cells #[.slice AT s.nT cT, .slice AB s.nB cB, .slice AH s.nH cH] 39))) := (Kept.refl _ _).alloc _
  have HP := Lib.hid fun (n : Nat) => hp.grow (HG0.out.drewN n)
  have s0 := hb.cell 0
  have s1 := hb.cell 1
  have s2 := hb.cell 2
  simp only [List.getElem?_cons_zero, List.getElem?_cons_succ] at s0 s1 s2
  have HF := Lib.hid hf
  have htz : (s.nT : Int) ≤ 60 := by have := hf.nT; omega
  have hbz : (s.nB : Int) ≤ 60 := by have := hf.nB; omega
  have hhz : (s.nH : Int) ≤ 8 := by have := hf.nH; omega
  clear hb hp hf
  by_cases hr : (1 ≤ s.nT ∧ s.nT ≤ 48) ∧ 1 ≤ s.nH ∧ s.nH ≤ 6
  · by_cases he : s.nB = s.nT
    · have HE := Lib.hid he
      have HRG := Lib.hid hr
      have h1 : 1 ≤ (s.nT : Int) := by omega
      have h2 : (s.nT : Int) ≤ 48 := by omega
      have h3 : 1 ≤ (s.nH : Int) := by omega
      have h4 : (s.nH : Int) ≤ 6 := by omega
      have h5 : ((s.nB : Int) == (s.nT : Int)) = true := by simp; omega
      have HB := Lib.hid fun (w : World) (hq : Parts w AT cT AB cB AH cH s) => bodies_any hq HE.out (by have := HF.out.nB; omega)
      have HH := Lib.hid fun (w : World) (hq : Parts w AT cT AB cB AH cH s) => handles_any hq (by have := HF.out.nH; omega)
      clear hr he
      unfold stv at *
      go_enter Try.func41, Try.ntmps41
      go_upto_region 1 with (fail)
      generalize w.alloc (.cells #[.slice AT s.nT cT, .slice AB s.nB cB, .slice AH s.nH cH] 39) = w0 at *
      go_quiet (fail)
      go_wp2_with (go_at_call 65; (with_reducible refine (HB.out _ (HP.out _)).mono ?_); rintro e w1 ⟨⟨b1, rfl, hb1⟩, hg1⟩; have HG1 := Lib.hid hg1; have HB1 := Lib.hid hb1; have s0 := hg1.cellN s0 id; have s1 := hg1.cellN s1 id; have s2 := hg1.cellN s2 id; clear hg1 hb1; cases b1)
      · go_ret
        exact Tells.no (fun x => Bool.noConfusion (HB1.out.2 x.2.2.1)) ((HG0.out.drewN _).trans HG1.out)
      · go_wp2_with (go_at_call 66; (with_reducible refine (HH.out _ ((HP.out _).grow HG1.out)).mono ?_); rintro e w2 ⟨⟨b2, rfl, hb2⟩, hg2⟩; have HG2 := Lib.hid hg2; have HB2 := Lib.hid hb2; clear hg2 hb2)
        go_ret
        exact ⟨⟨b2, rfl, fun x => ⟨HRG.out, HE.out, HB1.out.1 trivial, HB2.out.1 x⟩, fun x => HB2.out.2 x.2.2.2⟩, ((HG0.out.drewN _).trans HG1.out).trans HG2.out⟩
    · have h1 : 1 ≤ (s.nT : Int) := by omega
      have h2 : (s.nT : Int) ≤ 48 := by omega
      have h3 : 1 ≤ (s.nH : Int) := by omega
      have h4 : (s.nH : Int) ≤ 6 := by omega
      have h5 : ((s.nB : Int) == (s.nT : Int)) = false := by simp; omega
      have HBAD : Hid (¬ s.may) := fun x => he x.2.1
      clear hr he
      unfold stv at *
      go_enter Try.func41, Try.ntmps41
      go_upto_region 1 with (fail)
      generalize w.alloc (.cells #[.slice AT s.nT cT, .slice AB s.nB cB, .slice AH s.nH cH] 39) = w0 at *
      go_quiet (fail)
      go_wp2
      go_ret
      exact Tells.no HBAD.out (HG0.out.drewN _)
  · have HBAD : Hid (¬ s.may) := fun x => hr x.1
    have hbad : (decide ((s.nT : Int) < 1) || decide (48 < (s.nT : Int)) || decide ((s.nH : Int) < 1) || decide (6 < (s.nH : Int))) = true := by
      simp only [Bool.or_eq_true, decide_eq_true_eq]
      omega
    have HQ : Hid (stv AT cT AB cB AH cH s = stv AT cT AB cB AH cH s) := rfl
    by_cases h1 : (s.nT : Int) < 1
    · clear hr hbad
      unfold stv at *
      go_enter Try.func41, Try.ntmps41
      go_upto_region 1 with (fail)
      generalize w.alloc (.cells #[.slice AT s.nT cT, .slice AB s.nB cB, .slice AH s.nH cH] 39) = w0 at *
      go_quiet (fail)
      go_wp2
      go_ret
      exact Tells.no HBAD.out (HG0.out.drewN _)
    · by_cases h2 : 48 < (s.nT : Int)
      · have h1' : 1 ≤ (s.nT : Int) := by omega
        clear hr hbad h1
        unfold stv at *
        go_enter Try.func41, Try.ntmps41
        go_upto_region 1 with (fail)
        generalize w.alloc (.cells #[.slice AT s.nT cT, .slice AB s.nB cB, .slice AH s.nH cH] 39) = w0 at *
        go_quiet (fail)
        go_wp2
        go_ret
        exact Tells.no HBAD.out (HG0.out.drewN _)
      · by_cases h3 : (s.nH : Int) < 1
        · have h1' : 1 ≤ (s.nT : Int) := by omega
          have h2' : (s.nT : Int) ≤ 48 := by omega
          clear hr hbad h1 h2
          unfold stv at *
          go_enter Try.func41, Try.ntmps41
          go_upto_region 1 with (fail)
          generalize w.alloc (.cells #[.slice AT s.nT cT, .slice AB s.nB cB, .slice AH s.nH cH] 39) = w0 at *
          go_quiet (fail)
          go_wp2
          go_ret
          exact Tells.no HBAD.out (HG0.out.drewN _)
        · have h1' : 1 ≤ (s.nT : Int) := by omega
          have h2' : (s.nT : Int) ≤ 48 := by omega
          have h3' : 1 ≤ (s.nH : Int) := by omega
          have h4' : 6 < (s.nH : Int) := by omega
          clear hr hbad h1 h2 h3
          unfold stv at *
          go_enter Try.func41, Try.ntmps41
          go_upto_region 1 with (fail)
          generalize w.alloc (.cells #[.slice AT s.nT cT, .slice AB s.nB cB, .slice AH s.nH cH] 39) = w0 at *
          go_quiet (fail)
          go_wp2
          go_ret
          exact Tells.no HBAD.out (HG0.out.drewN _)
end
end Go.Proofs.Ytjdlpknflhgkfaa.PmM
