/-
  What the functions of package mail compute (chapter 9): Take.
-/
import Derived.Test.YtmealcbcphfpdaaMailPost
namespace Go.Proofs.Ytmealcbcphfpdaa.MailK
open Go.ChangeShapes Go.WideShapes Go.ChangeAt Go.RowKit Go.Conc
open Go.Proofs.Ytmealcbcphfpdaa.Mem Go.Proofs.Ytmealcbcphfpdaa.Blk Go.Proofs.Ytmealcbcphfpdaa.Cells Go.Proofs.Ytmealcbcphfpdaa.Chan Go.Proofs.Ytmealcbcphfpdaa.Prs Go.Proofs.Ytmealcbcphfpdaa.MailM Go.Proofs.Ytmealcbcphfpdaa.MailC Go.Proofs.Ytmealcbcphfpdaa.MailT Go.Proofs.Ytmealcbcphfpdaa.MailP Go.Proofs.Ytmealcbcphfpdaa.Stages

section
variable {w w' w2 : World} {B d c c0 c1 cap : Nat} {C0 C1 : Option Nat} {b b' : Bx} {zs us ys : List P2} {F : Nat → Prop}

theorem take_nil (n : Int) : Calls Try.prog 11 #[.pointer none, .int .i64 n] w fun e w' => e = .returned (.slice none 0 0) ∧ w = w' := by
  go_enter Try.func11, Try.ntmps11
  go_wp2
  go_ret
  exact ⟨rfl, rfl⟩
/-- The pairs us are told, in new memory; what is made of the box. -/
def KPost (B d : Nat) (w : World) (us : List P2) (b' : Bx) (e : Ending) (w' : World) : Prop :=
  ∃ A k, e = .returned (.slice A us.length k) ∧ Pl w' w'.heap.size A us.length us ∧ (∀ x, A = some x → w.heap.size ≤ x.block) ∧ BoxAt w' B d b' ∧ Kept (BF B d w) w w'

theorem take_none (h : BoxC w B d none none ⟨[], [], []⟩) (n : Int) : Calls Try.prog 11 #[.pointer (some ⟨d, 0, none⟩), .int .i64 n] w fun e w' => e = .returned (.slice none 0 0) ∧ w = w' := by
  have r0 := Row.c0 h.row
  have HT := Lib.hid (taken_none (w := w) n)
  clear h
  go_enter Try.func11, Try.ntmps11
  go_wp2_with (go_at_call 23; (with_reducible refine HT.out.mono ?_); rintro e w' ⟨rfl, rfl⟩)
  go_loopg [18] 0 (fun gx i wr => i = .int .i64 0 ∧ w = wr)
  case atStart => exact ⟨rfl, rfl⟩
  case round =>
    obtain ⟨rfl, rfl⟩ := hrel
    go_wp2
    go_ret
    exact ⟨rfl, rfl⟩

/-- How each one's word stands, when j words of us are opened. -/
def stB (b : Bx) (us : List P2) (j : Nat) (k : Int) : Int := if k ∈ fsts (us.take j) then 2 else b.st k
theorem stB_step {j : Nat} (hj : j < us.length) (k : Int) : stB b us (j + 1) k = if k = (us.getD j (0, 0)).1 then 2 else stB b us j k := by
  unfold stB
  rw [take_snocP hj, fsts_append]
  have e : (k ∈ fsts (us.take j) ++ fsts [us.getD j (0, 0)]) = (k ∈ fsts (us.take j) ∨ k = (us.getD j (0, 0)).1) := by
    rw [List.mem_append]
    simp [fsts]
  simp only [e]
  by_cases h1 : k ∈ fsts (us.take j) <;> by_cases h2 : k = (us.getD j (0, 0)).1 <;> simp [h1, h2]

set_option maxHeartbeats 2000000 in
theorem take_some (h : BoxC w B d (some c0) (some c1) b) (n : Int) : Calls Try.prog 11 #[.pointer (some ⟨d, 0, none⟩), .int .i64 n] w (KPost B d w (b.takeL n) (b.takeB n)) := by
  have r0 := Row.c0 h.row
  rcases h.ch with ⟨e, _⟩ | ⟨_, _, e0, e1, ne, h0, h1, a0, a1⟩
  · cases e
  injection e0 with e0
  injection e1 with e1
  subst e0 e1
  have hl := h.good.len
  have HT : Hid (Calls Try.prog 23 #[.chan (some c0), .int .i64 n] w (TPost c0 8 w (b.takeL n) (b.takeB n).W)) := taken_some a0 n (by omega)
  have HN : Hid ((b.takeL n).length ≤ 8) := by have h1 := takeL_len b n; have h2 := tk_le b n; show _ ≤ 8; omega
  have HRG : Hid (∀ j, j < (b.takeL n).length → 0 ≤ ((b.takeL n).getD j (0, 0)).1 ∧ ((b.takeL n).getD j (0, 0)).1 < 64) := fun j hj => by
    refine h.good.rng _ ?_
    rw [mem_who]
    refine .inl ?_
    rw [split_W b n]
    refine List.mem_append_left _ (List.mem_map.2 ⟨_, ?_, rfl⟩)
    rw [List.getD_eq_getElem?_getD, List.getElem?_eq_getElem hj]
    exact List.getElem_mem hj
  have HE : Hid (∀ k, (b.takeB n).st k = stB b (b.takeL n) (b.takeL n).length k) := fun k => by
    unfold stB
    rw [List.take_length]
    exact take_st h.good n
  have HG := Lib.hid (takeB_good h.good n)
  have HA : Hid ((b.takeB n).A = b.A) := rfl
  generalize b.takeL n = us at *
  generalize b.takeB n = b2 at *
  have H := Lib.hid h
  have HNE := Lib.hid ne
  have HCH := Lib.hid (And.intro a0 a1)
  have HB0 := Lib.hid (And.intro h0 h1)
  clear h ne h0 h1 a0 a1 hl
  go_enter Try.func11, Try.ntmps11
  go_wp2_with (go_at_call 23; (with_reducible refine HT.out.mono ?_); rintro e w1 ⟨A, k, rfl, hs, hn, hc, hk⟩; have HS := Lib.hid hs; have HX := Lib.hid hn; have HC := Lib.hid hc; have HK := Lib.hid hk; clear hs hn hc hk)
  have HD : Hid (d ≠ c0) := fun e => row_notChan H.out.row (by rw [e]; exact HCH.out.1.is)
  have HR1 : Hid (Row w1 d 66 (bcell (some c0) (some c1) (stB b us 0))) := H.out.row.kept HK.out HD.out
  go_loopg [18] us.length (fun gx i wr => ∃ j : Nat, j + gx = us.length ∧ i = .int .i64 (j : Int) ∧ Row wr d 66 (bcell (some c0) (some c1) (stB b us j)) ∧ Kept (· = d) w1 wr)
  case atStart => exact ⟨0, by omega, rfl, HR1.out, Kept.refl _ _⟩
  case round =>
    obtain ⟨j, hg, rfl, hr, hk⟩ := hrel
    have HGJ := Lib.hid hg
    have HR := Lib.hid hr
    have HKR := Lib.hid hk
    clear hg hr hk HR1
    by_cases hj : j < us.length
    · have hjz : (j : Int) < (us.length : Int) := by omega
      have hn8 : (us.length : Int) ≤ 8 := by have := HN.out; omega
      obtain ⟨b1, o1, rfl, _, hc⟩ := HS.out.at_ (by omega)
      have hbd : b1 ≠ d := fun e => by have h1 := HX.out _ rfl; have h2 := H.out.lt; simp only at h1; omega
      have q1 := HKR.out.cellN (hc j hj).1 hbd
      have q2 := HKR.out.cellN (hc j hj).2 hbd
      obtain ⟨hx0, hx1⟩ := HRG.out j hj
      have HST := Lib.hid (stB_step (b := b) hj)
      clear hc
      generalize us.getD j (0, 0) = p at *
      obtain ⟨x, y⟩ := p
      simp only at *
      go_upto_region 7 with (fail)
      have HR2 : Hid (Row (wr.alloc (.cells #[.int .i64 x, .int .i64 y] 42)) d 66 (bcell (some c0) (some c1) (stB b us j))) := HR.out.kept ((Kept.refl (fun _ => False) _).alloc _) id
      have HKA : Hid (Kept (· = d) w1 (wr.alloc (.cells #[.int .i64 x, .int .i64 y] 42))) := HKR.out.alloc _
      have c7 := (Blk.new wr 42 [.int .i64 x, .int .i64 y]).cell 0
      simp only [List.getElem?_cons_zero] at c7
      have hne : wr.heap.size ≠ d := by have := HR.out.lt; omega
      generalize wr.heap.size = s7 at c7 hne ⊢
      generalize wr.alloc (.cells #[.int .i64 x, .int .i64 y] 42) = wa at HR2 HKA c7 ⊢
      have d0 : wa.drew.cell? ⟨d, 2 + x.toNat, none⟩ = some (.int .i64 (stB b us j x)) := Row.stand HR2.out hx0 hx1
      have fd : wa.drew.frozen? ⟨d, 2 + x.toNat, none⟩ = false := HR2.out.frozen _
      have hc7 : wa.drew.cell? ⟨s7, 0, none⟩ = some (.int .i64 x) := c7
      clear q1 q2 c7
      refine wp_region_stages (Kept (· = d)) (kept_refl _) (kept_trans _) [([0, 1, 2, 3, 4, 5], 6)] [] (by kernel_rfl) (by kernel_rfl) ?_
      simp only [selSt, sel, List.map_cons, List.map_nil, List.getD_cons_succ, List.getD_cons_zero]
      refine st_cons fun K1 hK1 => ?_
      have u0 := up_cell (F := (· = d)) (w := wa.drew) (p := ⟨s7, 0, none⟩) hc7 hne
      repeat (go_big_quiet_step (fail))
      refine wpQuiet_nil ?_
      clear u0
      go_wp2
      have HKS : Hid (Kept (· = d) wa ((wa.setCell ⟨d, 2 + x.toNat, none⟩ (.int .i64 2)).drew)) := (kept_set wa d _ _).drew
      have HKT : Hid (Kept (· = d) wa.drew ((wa.setCell ⟨d, 2 + x.toNat, none⟩ (.int .i64 2)).drew)) := kept_set wa.drew d _ _
      have HR3 : Hid (Row ((wa.setCell ⟨d, 2 + x.toNat, none⟩ (.int .i64 2)).drew) d 66 (bcell (some c0) (some c1) (stB b us (j + 1)))) := Row.stands HR2.out hx0 hx1 2 fun i _ _ => HST.out i
      refine norm_up (hK1 _ _ HKT.out (st_nil fun K2 hK2 => wpQuiet_nil (hK2 _ ?_)))
      clear hK1 K1 hK2 K2 d0 fd hc7
      go_wp2
      go_roundg (gk - 1)
      case measure => have := HGJ.out; omega
      case rel => exact ⟨j + 1, by have := HGJ.out; omega, by go_num, HR3.out, HKA.out.trans HKS.out⟩
    · obtain rfl : j = us.length := by have := HGJ.out; omega
      go_wp2
      go_ret
      have hrow : Row wr d 66 (bcell (some c0) (some c1) b2.st) := HR.out.congr fun i _ => by
        unfold bcell
        rw [HE.out]
      refine ⟨A, k, rfl, (HS.out.more HKR.out.size).kept HKR.out fun x hx e => ?_, HX.out, ⟨some c0, some c1, hrow, H.out.low, .inr ⟨c0, c1, rfl, rfl, HNE.out, HB0.out.1, HB0.out.2, HC.out.kept HKR.out fun e => HD.out e.symm, ?_⟩, HG.out⟩, BF.trans (BF.chan HK.out HCH.out.1.is HB0.out.1) (BF.own HKR.out)⟩
      · have h1 := HX.out x hx
        have h2 := H.out.lt
        omega
      · rw [HA.out]
        have h1 := HCH.out.2.kept HK.out fun e => HNE.out e.symm
        exact h1.kept HKR.out fun e => row_notChan H.out.row (by rw [← e]; exact HCH.out.2.is)
theorem take_any (h : BoxAt w B d b) (n : Int) : Calls Try.prog 11 #[.pointer (some ⟨d, 0, none⟩), .int .i64 n] w (KPost B d w (b.takeL n) (b.takeB n)) := by
  obtain ⟨C0, C1, h⟩ := h
  rcases h.ch with ⟨rfl, rfl, rfl⟩ | ⟨c0, c1, rfl, rfl, _⟩
  · refine (take_none h n).mono ?_
    rintro e w' ⟨rfl, rfl⟩
    have e1 : (Bx.mk [] [] []).takeL n = [] := by simp [Bx.takeL]
    have e2 : (Bx.mk [] [] []).takeB n = ⟨[], [], []⟩ := by simp [Bx.takeB, e1, fsts]
    rw [e1, e2]
    exact ⟨none, 0, rfl, Pl.nil _ _ _, fun x hx => (by cases hx), ⟨none, none, h⟩, Kept.refl _ _⟩
  · exact take_some h n
end
end Go.Proofs.Ytmealcbcphfpdaa.MailK
