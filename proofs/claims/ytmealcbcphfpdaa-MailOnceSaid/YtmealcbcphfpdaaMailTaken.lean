/-
  What the functions of package mail compute (chapter 9): taken; Len.
-/
import Derived.Test.YtmealcbcphfpdaaMail
namespace Go.Proofs.Ytmealcbcphfpdaa.MailT
open Go.ChangeShapes Go.WideShapes Go.ChangeAt Go.RowKit Go.Conc
open Go.Proofs.Ytmealcbcphfpdaa.Mem Go.Proofs.Ytmealcbcphfpdaa.Blk Go.Proofs.Ytmealcbcphfpdaa.Cells Go.Proofs.Ytmealcbcphfpdaa.Chan Go.Proofs.Ytmealcbcphfpdaa.Prs Go.Proofs.Ytmealcbcphfpdaa.MailM Go.Proofs.Ytmealcbcphfpdaa.MailC Go.Proofs.Ytmealcbcphfpdaa.Stages

section
variable {w w' w2 : World} {B d c cap : Nat} {C0 C1 : Option Nat} {b : Bx} {zs us ys : List P2} {F : Nat → Prop}

/-- The pairs us are told, in new memory; ys wait in the channel behind the call. -/
def TPost (c cap : Nat) (w : World) (us ys : List P2) (e : Ending) (w' : World) : Prop :=
  ∃ A k, e = .returned (.slice A us.length k) ∧ Pl w' w'.heap.size A us.length us ∧ (∀ x, A = some x → w.heap.size ≤ x.block) ∧ ChP w' c cap ys ∧ Kept (· = c) w w'

/-- The channel behind one receive. -/
theorem chan_head {p : P2} {l : List P2} (h : ChP w c cap (p :: l)) : ∃ s r, w.heap[c]? = some (.chan cap (pvs (p :: l)).toArray false s r false) ∧ 0 < (pvs (p :: l)).toArray.size ∧ (pvs (p :: l)).toArray.getD 0 undef = .agg #[.int .i64 p.1, .int .i64 p.2] ∧ (pvs (p :: l)).toArray.extract 1 (pvs (p :: l)).toArray.size = (pvs l).toArray := by
  obtain ⟨s, r, h⟩ := h
  obtain ⟨h1, h2, h3⟩ := pvs_head p l
  exact ⟨s, r, h, h3, h1, h2⟩

/-- While pairs are told: j of them. -/
structure Mid (w : World) (c cap : Nat) (zs : List P2) (j : Nat) (v : Value) (wr : World) : Prop where
  own : wr.ownsRow w.heap.size 42 2 v j (flat (zs.take j))
  ch : ChP wr c cap (zs.drop j)
  kept : Kept (· = c) w wr

set_option maxHeartbeats 1000000 in
theorem taken_none (most : Int) : Calls Try.prog 23 #[.chan none, .int .i64 most] w fun e w' => e = .returned (.slice none 0 0) ∧ w = w' := by
  go_enter Try.func23, Try.ntmps23
  go_wp2
  go_step3
  go_wp2
  go_step3
  go_wp2
  by_cases h0 : 0 < most
  · go_loopg [5] 0 (fun gx v wr => v = .slice none 0 0 ∧ w = wr)
    case atStart => exact ⟨rfl, rfl⟩
    case round =>
      obtain ⟨rfl, rfl⟩ := hrel
      go_upto_region 4 with (fail)
      refine wp_inReg ?_
      simp only [List.size_toArray, List.length_cons, List.length_nil, Nat.reduceAdd, Nat.zero_add, List.range, List.range.loop]
      refine InReg.never (z := .agg #[.int .i64 0, .int .i64 0]) (w' := w) rfl rfl (by simp [go_sem, execOp, rcaseNil, Act.eval]) ?_
      refine InReg.op rfl rfl fun K hK => ?_
      go_simp
      refine hK _ _ ?_
      clear hK K
      refine InReg.op rfl rfl fun K hK => ?_
      go_simp
      refine hK _ _ (InReg.nil ?_)
      clear hK K
      go_wp2
      rw [Exit.noGoto_ret]
      go_ret
      exact ⟨rfl, rfl⟩
  · go_loopg [5] 0 (fun gx v wr => v = .slice none 0 0 ∧ w = wr)
    case atStart => exact ⟨rfl, rfl⟩
    case round =>
      obtain ⟨rfl, rfl⟩ := hrel
      have h1 : most ≤ 0 := by omega
      go_wp2
      go_ret
      exact ⟨rfl, rfl⟩

set_option maxHeartbeats 1000000 in
theorem taken_some (h : ChP w c cap zs) (most : Int) (hz : zs.length ≤ 64) : Calls Try.prog 23 #[.chan (some c), .int .i64 most] w (TPost c cap w (zs.take (min most.toNat zs.length)) (zs.drop (min most.toNat zs.length))) := by
  obtain ⟨N, hN⟩ : ∃ N, min most.toNat zs.length = N := ⟨_, rfl⟩
  rw [hN]
  have HN := Lib.hid hN
  have HZ := Lib.hid hz
  have HIS := Lib.hid h.is
  have HLT := Lib.hid h.lt
  have HM : Hid (Mid w c cap zs 0 (.slice none 0 0) w) := ⟨World.ownsRow_nil _ _ _ _, h, Kept.refl _ _⟩
  clear h hN hz
  go_enter Try.func23, Try.ntmps23
  go_wp2
  go_step3
  go_wp2
  go_step3
  go_wp2
  go_loopg [5] N (fun gx v wr => ∃ j : Nat, j + gx = N ∧ Mid w c cap zs j v wr)
  case atStart => exact ⟨0, by omega, HM.out⟩
  case round =>
    obtain ⟨j, hg, hm⟩ := hrel
    have HG := Lib.hid hg
    have HMR := Lib.hid hm
    obtain ⟨A', c', rfl, hsl, _, _, hx⟩ := own_pl hm.own
    have HSL := Lib.hid hsl
    have HX := Lib.hid hx
    have hch := hm.ch
    clear hg hm HM hsl hx
    by_cases hj : j < N
    · have hjl : j < zs.length := by have := HN.out; omega
      have hjm : (j : Int) < most := by have := HN.out; omega
      obtain ⟨p, l, hx⟩ : ∃ x l, zs.drop j = x :: l := by
        cases e : zs.drop j with
        | nil => rw [List.drop_eq_nil_iff] at e; omega
        | cons x l => exact ⟨x, l, rfl⟩
      have hl : zs.drop (j + 1) = l := by rw [show j + 1 = j + 1 from rfl, ← List.drop_drop, hx]; rfl
      have hxj : zs[j]? = some p := by
        have := congrArg (·[0]?) hx
        simpa using this
      have HT : Hid (zs.take (j + 1) = zs.take j ++ [p]) := by
        show _ = _
        rw [List.take_add_one, hxj]; rfl
      rw [hx] at hch
      obtain ⟨s, r, h1, h2, h3, h4⟩ := chan_head hch
      have HR1 := HMR.out
      have HO1 : Hid ((wr.setChan c cap (pvs l).toArray false s (r + 1) false).ownsRow w.heap.size 42 2 (.slice A' j c') j (flat (zs.take j))) := by
        exact own_of_block HR1.own fun g _ hn => heap_setChan_other fun e => hn (e ▸ HR1.ch.is)
      have HC1 : Hid (ChP (wr.setChan c cap (pvs l).toArray false s (r + 1) false) c cap l) := hch.set _ _ _
      have HK1 : Hid (Kept (· = c) w (wr.setChan c cap (pvs l).toArray false s (r + 1) false)) := HR1.kept.trans (kept_chan ..)
      go_upto_region 4 with (fail)
      refine wp_inReg ?_
      simp only [List.size_toArray, List.length_cons, List.length_nil, Nat.reduceAdd, Nat.zero_add, List.range, List.range.loop]
      refine InReg.taken (z := .agg #[.int .i64 0, .int .i64 0]) (w' := wr) rfl rfl (by simp [go_sem, execOp, rcase, Act.eval]) h1 h2 ?_
      rw [h3, h4]
      generalize wr.setChan c cap (pvs l).toArray false s (r + 1) false = w1 at HO1 HC1 HK1 ⊢
      have HL := Lib.hid hl
      have HXX := Lib.hid hx
      have hjz : j ≤ 64 := by have := HZ.out; omega
      clear h1 h2 h3 h4 hch HR1 hl hx hxj HMR hjl
      refine InReg.op rfl rfl fun K hK => ?_
      go_simp
      refine hK _ _ ?_
      clear hK K
      refine InReg.op rfl rfl fun K hK => ?_
      go_simp
      refine hK _ _ (InReg.nil ?_)
      clear hK K
      have hbs : w.heap.size ≤ w1.heap.size := HK1.out.size
      obtain ⟨px, py⟩ := p
      simp only at *
      have hal : ∀ o, Kept (fun _ => False) w1 (w1.alloc o) := fun o => (Kept.refl _ _).alloc _
      obtain ⟨v2, w2, hr, ho2, hk2⟩ := append_pl (m := 1) (c := 1) (A := some ⟨w1.heap.size + 1, 0, none⟩) 26 (World.ownsRow.alloc (World.ownsRow.alloc HO1.out (.cells #[.int .i64 px, .int .i64 py] 42)) (.cells #[.int .i64 px, .int .i64 py] 42)) (pl_two w1 (.cells #[.int .i64 px, .int .i64 py] 42) (px, py)) (by omega) (by simp; omega)
      have HK2 : Hid (Kept (fun k => (Value.slice A' j c').ownBlock = some k) w1 w2) := (Grow.kept (((Kept.refl (fun _ => False) w1).alloc _).alloc _)).trans hk2
      have HO2 := Lib.hid ho2
      have HR2 := Lib.hid hr
      clear hk2 ho2 hr hal
      go_wp2_with (at_builtin; refine Lib.wpList_append_run _ rfl _ _ _ _ rfl _ _ rfl rfl _ _ HR2.out ?_)
      go_roundg (gk - 1)
      case measure => have := HG.out; omega
      case rel =>
        have hown : ∀ g, (Value.slice A' j c').ownBlock = some g → ¬ IsChan w1 g ∧ w.heap.size ≤ g := fun g hg => own_notChan HO1.out hg
        refine ⟨j + 1, by have := HG.out; omega, ?_, ?_, ?_⟩
        · rw [HT.out]
          exact HO2.out
        · rw [HL.out]
          exact HC1.out.kept HK2.out fun e => (hown c e).1 HC1.out.is
        · exact HK1.out.then HK2.out fun k hk e => by have := (hown k e).2; omega
    · obtain rfl : j = N := by have := HG.out; omega
      have hj : ¬ (j : Int) < most ∨ j = zs.length := by have := HN.out; omega
      by_cases hm : (j : Int) < most
      · have hjz : j = zs.length := by omega
        have hd0 : zs.drop j = [] := by rw [hjz]; simp
        rw [hd0] at hch
        obtain ⟨s, r, h1⟩ := hch
        have HP : Hid (TPost c cap w (zs.take j) (zs.drop j) (.returned (.slice A' (zs.take j).length c')) wr) := by
          have hl := HSL.out.len
          exact ⟨A', c', rfl, by rw [hl]; exact HSL.out, HX.out, by rw [hd0]; exact ⟨s, r, h1⟩, HMR.out.kept⟩
        have HLL := Lib.hid HSL.out.len
        clear hj hjz hd0 HMR HSL HX
        go_upto_region 4 with (fail)
        refine wp_inReg ?_
        simp only [List.size_toArray, List.length_cons, List.length_nil, Nat.reduceAdd, Nat.zero_add, List.range, List.range.loop]
        refine InReg.empty (z := .agg #[.int .i64 0, .int .i64 0]) (w' := wr) rfl rfl (by simp [go_sem, execOp, rcase, Act.eval]) h1 ?_
        refine InReg.op rfl rfl fun K hK => ?_
        go_simp
        refine hK _ _ ?_
        clear hK K
        refine InReg.op rfl rfl fun K hK => ?_
        go_simp
        refine hK _ _ (InReg.nil ?_)
        clear hK K
        go_wp2
        rw [Exit.noGoto_ret]
        go_ret
        have := HP.out
        rwa [HLL.out] at this
      · have HP : Hid (TPost c cap w (zs.take j) (zs.drop j) (.returned (.slice A' (zs.take j).length c')) wr) := by
          have hl := HSL.out.len
          exact ⟨A', c', rfl, by rw [hl]; exact HSL.out, HX.out, hch, HMR.out.kept⟩
        have HLL := Lib.hid HSL.out.len
        have hm' : most ≤ (j : Int) := by omega
        clear hj hch HMR HSL HX hm
        go_wp2
        go_ret
        have := HP.out
        rwa [HLL.out] at this
end
end Go.Proofs.Ytmealcbcphfpdaa.MailT
