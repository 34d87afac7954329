/-
  Package handle (chapter 12): New and All.
-/
import Derived.Test.YtcbefohnicjkjaaHdNew
import Derived.Lib.AppendZeros
namespace Go.Proofs.Ytcbefohnicjkjaa.HdA
open Go.ChangeShapes Go.WideShapes Go.ChangeAt Go.RowKit
open Go.Proofs.Ytcbefohnicjkjaa.Mem Go.Proofs.Ytcbefohnicjkjaa.Blk Go.Proofs.Ytcbefohnicjkjaa.Cells Go.Proofs.Ytcbefohnicjkjaa.Orow Go.Proofs.Ytcbefohnicjkjaa.HdM Go.Proofs.Ytcbefohnicjkjaa.HdC Go.Proofs.Ytcbefohnicjkjaa.HdO Go.Proofs.Ytcbefohnicjkjaa.HdN Go.Proofs.Ytcbefohnicjkjaa.Stages Go.Proofs.Ytcbefohnicjkjaa.Trees

/-- Six numbers of the caller's own. -/
def RowPost (f : Nat → Int) (w : World) (e : Ending) (w' : World) : Prop := ∃ g c, e = .returned (.slice (some ⟨g, 0, none⟩) 6 c) ∧ w.heap.size ≤ g ∧ OR w' g 3 1 c 6 (hcell f) ∧ Grow w w'
section
variable {w w' w2 w3 : World} {G F X : Nat → Prop} {v : Value} {n d b cb c r g cap vb : Nat} {q cp : Nat → Nat} {H : Nat → Nat → Int} {a : Hs} {f : Nat → Int}
set_option maxHeartbeats 1000000 in
theorem clone_six (h : OR w b 3 1 cb 6 (hcell f)) (c : Nat) : Calls Try.prog 25 #[.slice (some ⟨b, 0, none⟩) 6 c] w (RowPost f w) := by
  obtain ⟨i0, hi, hz0, hz1, hz2⟩ := info_parts infoI
  have q22 : ∀ (w : World) (a : Option Addr) (n c n' c' : Nat), (binOp .eql 28 (.slice a n c) (.slice none n' c')).run Try.prog w = .ok (.bool a.isNone) w := fun w a n c n' c' => Lib.run_eql_slice_nil w _ _ a n c n' c' Try.underlying28
  have HC := Lib.hid h
  clear h
  go_enter Try.func25, Try.ntmps25
  go_wp2_with (at_builtin; refine wpList_append_lies _ rfl _ _ 28 rfl w.heap.size 3 i0 _ 1 8 Try.underlying28 hi hz0 hz1 hz2 rfl (by decide) _ _ _ rfl (World.ownsRow_made w #[] 0 (Nat.le_refl _) (Nat.zero_le _) rfl) ⟨b, 0, none⟩ 6 c ((List.range 6).map (hcell f)) rfl ?qc1 ?qc2 ?qc3 (by omega) ?qc4 ?qc5 ?qc6 _ rfl ?_)
  case qc1 => simp
  case qc2 =>
    intro j u hj
    have hjn : j < 6 := by
      have := (List.getElem?_eq_some_iff.1 hj).1
      simpa using this
    have e : (⟨b, 0, none⟩ : Addr).add j = ⟨b, j, none⟩ := by unfold Addr.add; split <;> simp_all
    rw [e]
    refine Lib.cell?_alloc_some _ ?_
    rw [OR.cell HC.out (by omega), ← hj]
    simp [hjn]
  case qc3 => intro u hu; obtain ⟨x, _, rfl⟩ := List.mem_map.1 hu; rfl
  case qc4 => unfold maxLen; omega
  case qc5 => omega
  case qc6 => simp
  intro g1 c1 w1 hown hgrow hor hlt
  have hown' := Lib.hid hown
  have hgr' : Hid (Grow w w1) := ((Kept.refl _ w).alloc _).grown hgrow (by intro k hk; simp [Value.ownBlock] at hk; omega)
  clear hown hgrow hor hlt
  go_wp2
  go_ret
  have hown := hown'.out
  obtain ⟨h1, h2⟩ := OR.of_own (f := hcell f) hown (fun i hi => by
    have : i = 0 ∨ i = 1 ∨ i = 2 ∨ i = 3 ∨ i = 4 ∨ i = 5 := by omega
    rcases this with rfl | rfl | rfl | rfl | rfl | rfl <;> rfl)
  exact ⟨g1, c1, rfl, h2, h1, hgr'.out⟩

/-! ### One row more -/
def up (q : Nat → Nat) (n r : Nat) (i : Nat) : Nat := if i = n then r else q i
theorem up_same {q : Nat → Nat} : up q n r n = r := if_pos rfl
theorem up_other {q : Nat → Nat} {i : Nat} (h : i < n) : up q n r i = q i := if_neg (by omega)
/-- The slice of a row that is to come. -/
def rcell (r c : Nat) (_ : Nat) : Value := .slice (some ⟨r, 0, none⟩) 6 c
theorem Gr.app (h : Gr w G v n q cp H) (hn : n ≤ 1000) (hx : w.cell? ⟨vb, 0, none⟩ = some (.slice (some ⟨r, 0, none⟩) 6 c)) :
    ∃ g cap w', (∀ ty, (Builtin.append_ #[26, 26] ty #[v, .slice (some ⟨vb, 0, none⟩) 1 1]).run Try.prog w = .ok (.slice (some ⟨g, 0, none⟩) (n + 1) cap) w') ∧ OR w' g 28 1 cap (n + 1) (joined (scell q cp) (rcell r c) (n * 1)) ∧ Kept (fun k => v.ownBlock = some k) w w' ∧ (v.ownBlock = some g ∨ g = w.heap.size) := by
  obtain ⟨i, hi, hz, hs, hb⟩ := info_parts infoS
  obtain ⟨g, cap, w', h1, h2, h3, h4⟩ := append_or (P := Try.prog) 26 3 i _ 24 Try.underlying26 hi hz hs hb rfl (by omega) h.out (by omega) (by omega) vb 1 (u := rcell r c) (fun j hj => by
    have : j = 0 := by omega
    subst this
    exact hx) (fun j hj => rfl)
  exact ⟨g, cap, w', fun ty => h1, h2, h3, h4⟩
theorem Gr.push (h : Gr w G v n q cp H) (hr : OR w r 3 1 c 6 (hcell (H n))) (hG : G r) (hnr : ∀ i, i < n → q i ≠ r) (hvr : v.ownBlock ≠ some r)
    (ho : OR w' g 28 1 cap (n + 1) (joined (scell q cp) (rcell r c) (n * 1))) (hk : Kept (fun k => v.ownBlock = some k) w w') (hg : v.ownBlock = some g ∨ g = w.heap.size) (hnew : ∀ k, w.heap.size ≤ k → G k) :
    Gr w' G (.slice (some ⟨g, 0, none⟩) (n + 1) cap) (n + 1) (up q n r) (up cp n c) H := by
  have hgG : G g := by
    rcases hg with e | e
    · exact (os_in h.out e).1
    · exact hnew _ (by omega)
  have hgr : g ≠ r := by
    rcases hg with e | e
    · rintro rfl; exact hvr e
    · have := hr.lt; omega
  refine ⟨.inr ⟨g, cap, rfl, ho.congr fun i hi => ?_, hgG⟩, fun i hi => ?_, fun i hi => ?_, fun i hi => ?_, fun i j hi hj e => ?_⟩
  · unfold joined
    by_cases e : i < n
    · rw [if_pos (by omega)]
      unfold scell
      rw [up_other e, up_other e]
    · have : i = n := by omega
      subst this
      rw [if_neg (by omega)]
      unfold scell
      rw [up_same, up_same]; rfl
  · by_cases e : i < n
    · rw [up_other e, up_other e]
      exact (h.row i e).kept hk (h.off i e)
    · have : i = n := by omega
      subst this
      rw [up_same, up_same]
      exact hr.kept hk hvr
  · by_cases e : i < n
    · rw [up_other e]; exact h.inG i e
    · have : i = n := by omega
      subst this
      rw [up_same]; exact hG
  · show some g ≠ some (up q n r i)
    rintro e2
    injection e2 with e2
    by_cases e : i < n
    · rw [up_other e] at e2
      rcases hg with x | x
      · exact h.off i e (e2 ▸ x)
      · have := (h.row i e).lt; omega
    · have : i = n := by omega
      subst this
      rw [up_same] at e2
      exact hgr e2
  · by_cases e1 : i < n
    · by_cases e2 : j < n
      · rw [up_other e1, up_other e2] at e
        exact h.ne i j e1 e2 e
      · have : j = n := by omega
        subst this
        rw [up_other e1, up_same] at e
        exact absurd e (hnr i e1)
    · have : i = n := by omega
      subst this
      by_cases e2 : j < i
      · rw [up_other e2, up_same] at e
        exact absurd e.symm (hnr j e2)
      · omega

/-! ### All -/
/-- All rows, the caller's own. -/
def AllPost (a : Hs) (w : World) (e : Ending) (w' : World) : Prop := ∃ v q cp, e = .returned v ∧ Gr w' (w.heap.size ≤ ·) v a.n q cp a.H ∧ Grow w w'
theorem gr_nil (w : World) (G : Nat → Prop) (q cp : Nat → Nat) (H : Nat → Nat → Int) : Gr w G (.slice none 0 0) 0 q cp H :=
  ⟨.inl ⟨rfl, rfl⟩, fun i hi => absurd hi (Nat.not_lt_zero i), fun i hi => absurd hi (Nat.not_lt_zero i), fun i hi => absurd hi (Nat.not_lt_zero i), fun i _ hi => absurd hi (Nat.not_lt_zero i)⟩
set_option maxHeartbeats 1000000 in
theorem all_any (h : HAt w G d a) : Calls Try.prog 9 #[.pointer (some ⟨d, 0, none⟩)] w (AllPost a w) := by
  obtain ⟨A, cap, c0, hr⟩ := HAt.rows h
  have HR := Lib.hid hr
  have hnz : (a.n : Int) ≤ 6 := by have := h.good.n; omega
  obtain ⟨B, hB⟩ : ∃ B, B = w.heap.size := ⟨_, rfl⟩
  have HB := Lib.hid hB
  clear h hr hB
  go_enter Try.func9, Try.ntmps9
  go_wp2
  go_loopg [3, 13] a.n (fun gx v i wr => ∃ (j : Nat) (q cp : Nat → Nat), j + gx = a.n ∧ i = .int .i64 (j : Int) ∧ Gr wr (B ≤ ·) v j q cp a.H ∧ Grow w wr)
  case atStart => exact ⟨0, id, id, by omega, rfl, gr_nil _ _ _ _ _, Kept.refl _ _⟩
  case round =>
    obtain ⟨j, q, cp, hg, rfl, hgr, hk⟩ := hrel
    have HG := Lib.hid hg
    have HGR := Lib.hid hgr
    have HK := Lib.hid hk
    clear hg hgr hk
    by_cases hj : j < a.n
    · have hjz : (j : Int) < (a.n : Int) := by omega
      obtain ⟨g, b, c, rfl, c1, hrow⟩ := HR.out.get j hj
      have c2 := HK.out.cellN c1 id
      have HC := Lib.hid (clone_six (hrow.kept HK.out id) c)
      have HJ := Lib.hid hj
      clear hrow c1 hj
      go_wp2_with (first
        | (go_at_call 25; (with_reducible refine HC.out.mono ?_); rintro e w2 ⟨r, cr, rfl, hlt, hrow, hgw⟩; have HRO := Lib.hid hrow; have HGW := Lib.hid hgw; have HLT := Lib.hid hlt; have HGA : Hid (Grow w2 (w2.alloc (.cells #[.slice (some ⟨r, 0, none⟩) 6 cr] 28))) := (Kept.refl _ w2).alloc _; have HGB := Lib.hid ((HGR.out.kept hgw fun _ _ x => x).kept HGA.out fun _ _ x => x); obtain ⟨g4, cap4, w4, hr4, ho4, hk4, hb4⟩ := Gr.app HGB.out (by have := HJ.out; omega) (cell_new1 w2 (.slice (some ⟨r, 0, none⟩) 6 cr) 28); have HR4 := Lib.hid hr4; have HO4 := Lib.hid ho4; have HK4 := Lib.hid hk4; have HB4 := Lib.hid hb4; clear hrow hgw hlt hr4 ho4 hk4 hb4)
        | (at_builtin; refine Lib.wpList_append_run _ rfl _ _ _ _ rfl _ _ rfl rfl _ _ (HR4.out _) ?_))
      go_roundg (gk - 1)
      case measure => have := HG.out; omega
      case rel =>
        refine ⟨j + 1, _, _, by have := HG.out; have := HJ.out; omega, by go_num, Gr.push HGB.out ((HRO.out.kept HGA.out id)) ?_ ?_ ?_ HO4.out HK4.out HB4.out ?_, ?_⟩
        · have := HLT.out; have := HK.out.size; have := HB.out; show B ≤ r; omega
        · intro i hi e; have := (HGR.out.row i hi).lt; have := HLT.out; omega
        · intro e; have := (os_in HGR.out.out e).2; have := HLT.out; omega
        · intro k hk; have := HGA.out.size; have := HGW.out.size; have := HK.out.size; have := HB.out; show B ≤ k; omega
        · exact ((HK.out.trans HGW.out).trans HGA.out).then HK4.out fun k hk e => by
            have := (os_in HGR.out.out e).1
            have := HB.out
            omega
    · obtain rfl : j = a.n := by have := HG.out; omega
      go_wp2
      go_ret
      exact ⟨_, q, cp, rfl, by rw [← HB.out]; exact HGR.out, HK.out⟩
end
end Go.Proofs.Ytcbefohnicjkjaa.HdA
