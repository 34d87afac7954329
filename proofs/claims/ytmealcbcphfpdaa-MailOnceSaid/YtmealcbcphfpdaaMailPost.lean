/-
  What the functions of package mail compute (chapter 9): Len, Post.
-/
import Derived.Test.YtmealcbcphfpdaaMailTaken
namespace Go.Proofs.Ytmealcbcphfpdaa.MailP
open Go.ChangeShapes Go.WideShapes Go.ChangeAt Go.RowKit Go.Conc
open Go.Proofs.Ytmealcbcphfpdaa.Mem Go.Proofs.Ytmealcbcphfpdaa.Blk Go.Proofs.Ytmealcbcphfpdaa.Cells Go.Proofs.Ytmealcbcphfpdaa.Chan Go.Proofs.Ytmealcbcphfpdaa.Prs Go.Proofs.Ytmealcbcphfpdaa.MailM Go.Proofs.Ytmealcbcphfpdaa.MailC Go.Proofs.Ytmealcbcphfpdaa.MailT Go.Proofs.Ytmealcbcphfpdaa.Stages

section
variable {w w' w2 : World} {B d c c0 c1 cap : Nat} {C0 C1 : Option Nat} {b b' : Bx} {zs us ys : List P2} {F : Nat → Prop}

/-! ### Len -/
theorem run_len_chan (ty : TypeId) (h : ChP w c cap zs) : (Builtin.len_ #[44] ty #[.chan (some c)]).run Try.prog w = .ok (.int .i64 (zs.length : Int)) w := by
  obtain ⟨s, r, h⟩ := h
  simp [Builtin.len_, run_underlying Try.underlying44, getObj, Sem.run, h, pvs]
  rfl
theorem run_len_none (ty : TypeId) (w : World) : (Builtin.len_ #[44] ty #[.chan none]).run Try.prog w = .ok (.int .i64 0) w := by
  simp [Builtin.len_, run_underlying Try.underlying44]
  rfl
theorem len_nil : Calls Try.prog 17 #[.pointer none] w fun e w' => e = .returned (.int .i64 0) ∧ w = w' := by
  go_enter Try.func17, Try.ntmps17
  go_wp2
  go_ret
  exact ⟨rfl, rfl⟩
theorem len_any (h : BoxAt w B d b) : Calls Try.prog 17 #[.pointer (some ⟨d, 0, none⟩)] w fun e w' => e = .returned (.int .i64 (b.W.length : Int)) ∧ w = w' := by
  obtain ⟨C0, C1, h⟩ := h
  have r0 := Row.c0 h.row
  have hl := h.good.len
  rcases h.ch with ⟨rfl, rfl, rfl⟩ | ⟨c0, c1, rfl, rfl, _, _, _, a0, _⟩
  · have HL := fun ty => run_len_none ty w
    clear h hl
    go_enter Try.func17, Try.ntmps17
    go_wp2
    go_ret
    exact ⟨rfl, rfl⟩
  · have HL := fun ty => run_len_chan ty a0
    clear h a0
    go_enter Try.func17, Try.ntmps17
    go_wp2
    go_ret
    exact ⟨rfl, rfl⟩

/-! ### Post -/
theorem info_pair : ∃ i, Try.prog.info? 42 = some i ∧ i.bytes = 16 := by
  have h : (Try.prog.info? 42).map (·.bytes) = some 16 := by kernel_rfl
  obtain ⟨i, hi, hb⟩ := Option.map_eq_some_iff.1 h
  exact ⟨i, hi, hb⟩
theorem mk8 (w : World) : (Instr.makeChan 44 (.int .i64 8)).run Try.prog w = .ok (.chan (some w.heap.size)) (w.alloc (.chan 8 #[] false 0 0 false)) := by
  obtain ⟨i, hi, hb⟩ := info_pair
  simpa using run_makeChan (P := Try.prog) (w := w) Try.underlying44 hi .i64 8 (by omega) (by rw [hb]; omega)
theorem mk64 (w : World) : (Instr.makeChan 44 (.int .i64 64)).run Try.prog w = .ok (.chan (some w.heap.size)) (w.alloc (.chan 64 #[] false 0 0 false)) := by
  obtain ⟨i, hi, hb⟩ := info_pair
  simpa using run_makeChan (P := Try.prog) (w := w) Try.underlying44 hi .i64 64 (by omega) (by rw [hb]; omega)
theorem eql_chan_in (w : World) (n : Nat) (C : Option Nat) : (Op.equalIn (n + 1) 44 (.chan C) (.chan none)).run Try.prog w = .ok C.isNone w := by
  cases C <;> simp [Op.equalIn, run_underlying Try.underlying44]
theorem eql_chan (w : World) (C : Option Nat) : (binOp .eql 44 (.chan C) (.chan none)).run Try.prog w = .ok (.bool C.isNone) w := by
  simp only [binOp]
  simp [Op.equal, Op.maxDepth, eql_chan_in w 9999 C]

/-- How one's word stands is written into a box. -/
theorem box_store {S : Int → Int} (hr : Row w d 66 (bcell (some c0) (some c1) S)) (hB : B ≤ d) (ne : c0 ≠ c1) (h0 : B ≤ c0) (h1 : B ≤ c1) (a0 : ChP w c0 8 b.W) (a1 : ChP w c1 64 b.A) (g : Fit b) {k : Int} (x : Int) (hk0 : 0 ≤ k) (hk1 : k < 64) (hs : ∀ i, b.st i = if i = k then x else S i) :
    BoxAt (w.setCell ⟨d, 2 + k.toNat, none⟩ (.int .i64 x)) B d b ∧ Kept (· = d) w (w.setCell ⟨d, 2 + k.toNat, none⟩ (.int .i64 x)) := by
  have hk := kept_set w d (2 + k.toNat) (.int .i64 x)
  exact ⟨⟨some c0, some c1, Row.stands hr hk0 hk1 x fun i _ _ => hs i, hB, .inr ⟨c0, c1, rfl, rfl, ne, h0, h1, a0.kept hk fun e => row_notChan hr (e ▸ a0.is), a1.kept hk fun e => row_notChan hr (e ▸ a1.is)⟩, g⟩, hk⟩

/-- What a call answers; what it makes of a box. -/
def RPost (B d : Nat) (w : World) (r : Value) (b' : Bx) (e : Ending) (w' : World) : Prop := e = .returned r ∧ BoxAt w' B d b' ∧ Kept (BF B d w) w w'

theorem post_nil (f x : Int) : Calls Try.prog 8 #[.pointer none, .int .i64 f, .int .i64 x] w fun e w' => e = .returned (.int .i64 12) ∧ w = w' := by
  go_enter Try.func8, Try.ntmps8
  go_wp2
  go_ret
  exact ⟨rfl, rfl⟩
/-- No task; or its word waits, is open, or has its answer. -/
theorem post_held (h : BoxAt w B d b) (f x : Int) (hf : isT f = false ∨ b.st f ≠ 0) : Calls Try.prog 8 #[.pointer (some ⟨d, 0, none⟩), .int .i64 f, .int .i64 x] w fun e w' => e = .returned (.int .i64 (b.postE f)) ∧ w = w' := by
  obtain ⟨C0, C1, h⟩ := h
  have HA := Lib.hid (at_any h f)
  cases ht : isT f with
  | false =>
    have he : b.postE f = 1 := by unfold Bx.postE; rw [ht]; rfl
    rw [he]
    simp only [ht, Bool.false_eq_true, if_false] at HA
    clear h hf ht he
    go_enter Try.func8, Try.ntmps8
    go_wp2_with (go_at_call 18; (with_reducible refine HA.out.mono ?_); rintro e w' ⟨rfl, rfl⟩)
    go_ret
    exact ⟨rfl, rfl⟩
  | true =>
    have hne : b.st f ≠ 0 := by
      rcases hf with h | h
      · rw [ht] at h; cases h
      · exact h
    have he : b.postE f = 13 := by unfold Bx.postE; rw [ht, if_pos rfl, if_neg hne]
    rw [he]
    simp only [ht, if_true] at HA
    have hr := st_range (b := b) (k := f)
    have hc : b.st f = 1 ∨ b.st f = 2 ∨ b.st f = 3 := by omega
    clear h hf ht he hne hr
    rcases hc with hc | hc | hc <;> rw [hc] at HA <;> clear hc
    all_goals
      go_enter Try.func8, Try.ntmps8
      go_wp2_with (go_at_call 18; (with_reducible refine HA.out.mono ?_); rintro e w' ⟨rfl, rfl⟩)
      go_ret
      exact ⟨rfl, rfl⟩
/-- There is no room. -/
theorem post_full (h : BoxAt w B d b) (f x : Int) (hf : isT f = true) (hs : b.st f = 0) (hl : ¬ b.W.length < 8) : Calls Try.prog 8 #[.pointer (some ⟨d, 0, none⟩), .int .i64 f, .int .i64 x] w fun e w' => e = .returned (.int .i64 8) ∧ Grow w w' := by
  obtain ⟨C0, C1, h⟩ := h
  have HA := Lib.hid (at_any h f)
  simp only [hf, if_true, hs] at HA
  have r0 := Row.c0 h.row
  have hl8 := h.good.len
  rcases h.ch with ⟨rfl, rfl, rfl⟩ | ⟨c0, c1, rfl, rfl, _, _, _, a0, _⟩
  · exact absurd (by decide) hl
  · have HP := Lib.hid (put_full a0 (by omega) f x)
    have HQ := eql_chan w (some c0)
    simp only [Option.isNone_some] at HQ
    clear h hl8 hl a0 hs hf
    go_enter Try.func8, Try.ntmps8
    go_wp2_with (first
      | (go_at_call 18; (with_reducible refine HA.out.mono ?_); rintro e w' ⟨rfl, rfl⟩)
      | (go_at_call 19; (with_reducible refine HP.out.mono ?_); rintro e w1 ⟨rfl, hg⟩; have HG := Lib.hid hg; clear hg))
    go_ret
    exact ⟨rfl, HG.out⟩
theorem post_some (h : BoxC w B d (some c0) (some c1) b) (f x : Int) (he : b.postE f = 0) : Calls Try.prog 8 #[.pointer (some ⟨d, 0, none⟩), .int .i64 f, .int .i64 x] w (RPost B d w (.int .i64 0) (b.postB f x)) := by
  have HA := Lib.hid (at_any h f)
  have hg := postB_good h.good f x
  unfold Bx.postB at hg ⊢
  rw [if_pos he] at hg ⊢
  obtain ⟨⟨hf0, hf1⟩, hw, hl⟩ := postE_zero.1 he
  simp only [isT_iff.2 ⟨hf0, hf1⟩, if_true, st_zero.2 hw] at HA
  have r0 := Row.c0 h.row
  rcases h.ch with ⟨e, _⟩ | ⟨_, _, e0, e1, ne, h0, h1, a0, a1⟩
  · cases e
  injection e0 with e0
  injection e1 with e1
  subst e0 e1
  have HP := Lib.hid (put_room a0 hl f x)
  have HQ := eql_chan w (some c0)
  simp only [Option.isNone_some] at HQ
  have HR : Hid (∀ w1, ChP w1 c0 8 (b.W ++ [(f, x)]) → Kept (· = c0) w w1 → (w1.cell? ⟨d, 2 + f.toNat, none⟩ = some (.int .i64 (b.st f)) ∧ w1.frozen? ⟨d, 2 + f.toNat, none⟩ = false) ∧ RPost B d w (.int .i64 0) ⟨b.W ++ [(f, x)], b.O, b.A⟩ (.returned (.int .i64 0)) (w1.setCell ⟨d, 2 + f.toNat, none⟩ (.int .i64 1))) := fun w1 hc hk => by
    have hd : d ≠ c0 := fun e => row_notChan h.row (e ▸ a0.is)
    have hrow : Row w1 d 66 (bcell (some c0) (some c1) b.st) := h.row.kept hk hd
    obtain ⟨q1, q2⟩ := box_store (b := ⟨b.W ++ [(f, x)], b.O, b.A⟩) hrow h.low ne h0 h1 hc (a1.kept hk fun e => ne e.symm) hg (k := f) 1 hf0 hf1 (fun i => post_st x)
    exact ⟨⟨Row.stand hrow hf0 hf1, hrow.frozen _⟩, rfl, q1, BF.trans (BF.chan hk a0.is h0) (BF.own q2)⟩
  clear h hg hw hl he a0 a1 ne h0 h1
  go_enter Try.func8, Try.ntmps8
  go_wp2_with (first
    | (go_at_call 18; (with_reducible refine HA.out.mono ?_); rintro e w' ⟨rfl, rfl⟩)
    | (go_at_call 19; (with_reducible refine HP.out.mono ?_); rintro e w1 ⟨rfl, hc, hk⟩; obtain ⟨⟨q1, q2⟩, q3⟩ := HR.out w1 hc hk; have HF := Lib.hid q3; clear hc hk q3))
  go_ret
  exact HF.out
theorem bcell_set0 (S : Int → Int) (i : Nat) : (if i = 0 then Value.chan C0 else bcell none C1 S i) = bcell C0 C1 S i := by
  unfold bcell
  by_cases e : i = 0 <;> simp [e]
theorem bcell_set1 (S : Int → Int) (i : Nat) : (if i = 1 then Value.chan C1 else bcell C0 none S i) = bcell C0 C1 S i := by
  unfold bcell
  by_cases e : i = 1
  · simp [e]
  · simp [e]
theorem chan_new (w : World) (cap : Nat) : ChP (w.alloc (.chan cap #[] false 0 0 false)) w.heap.size cap [] := ⟨0, 0, heap_alloc_new w _⟩
set_option maxHeartbeats 1000000 in
theorem post_none (h : BoxC w B d none none ⟨[], [], []⟩) (f x : Int) (hf0 : 0 ≤ f) (hf1 : f < 64) : Calls Try.prog 8 #[.pointer (some ⟨d, 0, none⟩), .int .i64 f, .int .i64 x] w (RPost B d w (.int .i64 0) ⟨[(f, x)], [], []⟩) := by
  have HA := Lib.hid (at_any h f)
  simp only [isT_iff.2 ⟨hf0, hf1⟩, if_true, st_new] at HA
  have r0 := Row.c0 h.row
  have r1 := Row.c1 h.row
  have f0 := h.row.frozen 0
  have f1 := h.row.frozen 1
  have HQ := eql_chan w none
  simp only [Option.isNone_none] at HQ
  have k8 := mk8 w
  have H := Lib.hid h
  have k64 := mk64
  clear h
  go_enter Try.func8, Try.ntmps8
  have HG8 := (Kept.refl (fun _ => False) w).alloc (.chan 8 #[] false 0 0 false)
  have e0 := HG8.cellN r0 id
  have e1 : (w.alloc (.chan 8 #[] false 0 0 false)).frozen? ⟨d, 0, none⟩ = false := (HG8.frozen (p := ⟨d, 0, none⟩) H.out.lt id).trans f0
  go_upto_region 10 with (go_at_call 18; (with_reducible refine HA.out.mono ?_); rintro e w' ⟨rfl, rfl⟩)
  have HR1 : Hid (Row ((w.alloc (.chan 8 #[] false 0 0 false)).setCell ⟨d, 0, none⟩ (.chan (some w.heap.size))) d 66 (bcell (some w.heap.size) none (Bx.mk [] [] []).st)) := ((H.out.row.kept HG8 id).set 0 _).congr fun i _ => bcell_set0 _ i
  have HC1 : Hid (ChP ((w.alloc (.chan 8 #[] false 0 0 false)).setCell ⟨d, 0, none⟩ (.chan (some w.heap.size))) w.heap.size 8 []) := (chan_new w 8).kept (kept_set _ d 0 _) fun e => by have h1 : w.heap.size = d := e; have h2 := H.out.lt; omega
  have HK1 : Hid (Kept (· = d) w ((w.alloc (.chan 8 #[] false 0 0 false)).setCell ⟨d, 0, none⟩ (.chan (some w.heap.size)))) := (Grow.kept HG8).trans (kept_set _ d 0 _)
  have HS0 : Hid (B ≤ w.heap.size) := by
    have h1 := H.out.low
    have h2 := H.out.lt
    show B ≤ w.heap.size
    omega
  have HLOW := Lib.hid H.out.low
  generalize (w.alloc (.chan 8 #[] false 0 0 false)).setCell ⟨d, 0, none⟩ (.chan (some w.heap.size)) = w1 at HR1 HC1 HK1 ⊢
  generalize w.heap.size = s0 at HR1 HC1 HS0 ⊢
  clear e0 e1 HG8 k8 HQ H r0 r1 f0 f1
  have k64 := mk64 w1
  have HG9 := (Kept.refl (fun _ => False) w1).alloc (.chan 64 #[] false 0 0 false)
  have e0 := HG9.cellN (Row.c1 HR1.out) id
  have e1 : (w1.alloc (.chan 64 #[] false 0 0 false)).frozen? ⟨d, 1, none⟩ = false := (HG9.frozen (p := ⟨d, 1, none⟩) HR1.out.lt id).trans (HR1.out.frozen 1)
  go_upto_region 11 with (fail)
  have HR2 : Hid (Row ((w1.alloc (.chan 64 #[] false 0 0 false)).setCell ⟨d, 1, none⟩ (.chan (some w1.heap.size))) d 66 (bcell (some s0) (some w1.heap.size) (Bx.mk [] [] []).st)) := ((HR1.out.kept HG9 id).set 1 _).congr fun i _ => bcell_set1 _ i
  have HC2 : Hid (ChP ((w1.alloc (.chan 64 #[] false 0 0 false)).setCell ⟨d, 1, none⟩ (.chan (some w1.heap.size))) w1.heap.size 64 []) := (chan_new w1 64).kept (kept_set _ d 1 _) fun e => by have h1 : w1.heap.size = d := e; have h2 := HR1.out.lt; omega
  have HK2 : Hid (Kept (· = d) w1 ((w1.alloc (.chan 64 #[] false 0 0 false)).setCell ⟨d, 1, none⟩ (.chan (some w1.heap.size)))) := (Grow.kept HG9).trans (kept_set _ d 1 _)
  have HS1 : Hid (s0 < w1.heap.size) := HC1.out.lt
  generalize (w1.alloc (.chan 64 #[] false 0 0 false)).setCell ⟨d, 1, none⟩ (.chan (some w1.heap.size)) = w2 at HR2 HC2 HK2 ⊢
  generalize w1.heap.size = s1 at HR2 HC2 HS1 ⊢
  have hne : s0 ≠ s1 := by have := HS1.out; omega
  have HC3 : Hid (ChP w2 s0 8 []) := HC1.out.kept HK2.out fun e => row_notChan HR1.out (by rw [← e]; exact HC1.out.is)
  clear e0 e1 HG9 k64 HC1
  have HK3 : Hid (Kept (BF B d w) w w2) := BF.own (HK1.out.trans HK2.out)
  have HP := Lib.hid (put_room HC3.out (by decide) f x)
  have q0 := Row.c0 HR2.out
  have HR : Hid (∀ w3, ChP w3 s0 8 [(f, x)] → Kept (· = s0) w2 w3 → (w3.cell? ⟨d, 2 + f.toNat, none⟩ = some (.int .i64 0) ∧ w3.frozen? ⟨d, 2 + f.toNat, none⟩ = false) ∧ RPost B d w (.int .i64 0) ⟨[(f, x)], [], []⟩ (.returned (.int .i64 0)) (w3.setCell ⟨d, 2 + f.toNat, none⟩ (.int .i64 1))) := fun w3 hc hk => by
    have hd : d ≠ s0 := fun e => row_notChan HR2.out (e ▸ HC3.out.is)
    have hrow : Row w3 d 66 (bcell (some s0) (some s1) (Bx.mk [] [] []).st) := HR2.out.kept hk hd
    have hg : Fit ⟨[(f, x)], [], []⟩ := ⟨by simp [Bx.who, fsts], fun k hk => by
      have : k = f := by simpa [Bx.who, fsts] using hk
      subst this
      exact ⟨hf0, hf1⟩, by show 1 ≤ 8; omega⟩
    obtain ⟨q1, q2⟩ := box_store (b := ⟨[(f, x)], [], []⟩) hrow HLOW.out hne HS0.out (by have := HS0.out; have := HS1.out; omega) hc (HC2.out.kept hk fun e => hne e.symm) hg (k := f) 1 hf0 hf1 (fun i => post_st (b := ⟨[], [], []⟩) x)
    exact ⟨⟨Row.stand hrow hf0 hf1, hrow.frozen _⟩, rfl, q1, BF.trans HK3.out (BF.trans (BF.chan hk HC3.out.is HS0.out) (BF.own q2))⟩
  clear hne HC2 HK2 HK1 HR1 HR2
  go_wp2_with (go_at_call 19; (with_reducible refine HP.out.mono ?_); rintro e w3 ⟨rfl, hc, hk⟩; obtain ⟨⟨q1, q2⟩, q3⟩ := HR.out w3 hc hk; have HF := Lib.hid q3; clear hc hk q3)
  go_ret
  exact HF.out
theorem post_any (h : BoxAt w B d b) (f x : Int) : Calls Try.prog 8 #[.pointer (some ⟨d, 0, none⟩), .int .i64 f, .int .i64 x] w (RPost B d w (.int .i64 (b.postE f)) (b.postB f x)) := by
  by_cases he : b.postE f = 0
  · obtain ⟨⟨hf0, hf1⟩, _, _⟩ := postE_zero.1 he
    obtain ⟨C0, C1, h⟩ := h
    rw [he]
    rcases h.ch with ⟨rfl, rfl, rfl⟩ | ⟨c0, c1, rfl, rfl, _⟩
    · have := post_none h f x hf0 hf1
      unfold Bx.postB
      rw [if_pos he]
      exact this
    · exact post_some h f x he
  · have hb : b.postB f x = b := by unfold Bx.postB; rw [if_neg he]
    rw [hb]
    by_cases hc : isT f = false ∨ b.st f ≠ 0
    · refine (post_held h f x hc).mono ?_
      rintro e w' ⟨rfl, rfl⟩
      exact ⟨rfl, h, Kept.refl _ _⟩
    · have hf : isT f = true := by
        cases e : isT f with
        | true => rfl
        | false => exact absurd (.inl e) hc
      have hs : b.st f = 0 := Classical.byContradiction fun e => hc (.inr e)
      have hl : ¬ b.W.length < 8 := fun hl => he (postE_zero.2 ⟨isT_iff.1 hf, st_zero.1 hs, hl⟩)
      have e8 : b.postE f = 8 := by unfold Bx.postE; rw [hf, if_pos rfl, if_pos hs, if_neg hl]
      rw [e8]
      refine (post_full h f x hf hs hl).mono ?_
      rintro e w' ⟨rfl, hg⟩
      exact ⟨rfl, h.grow hg, Grow.kept hg⟩
end
end Go.Proofs.Ytmealcbcphfpdaa.MailP
