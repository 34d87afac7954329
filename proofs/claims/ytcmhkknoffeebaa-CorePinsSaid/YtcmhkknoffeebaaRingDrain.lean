/-
  What the functions of package ring compute (chapter 8): Drain.
-/
import Derived.Test.YtcmhkknoffeebaaRing
import Derived.RegionTactic
import Derived.Deep.CutRange
namespace Go.Proofs.Ytcmhkknoffeebaa.RingD
open Go.ChangeShapes Go.WideShapes Go.ChangeAt Go.RowKit Go.Conc
open Go.Proofs.Ytcmhkknoffeebaa.Mem Go.Proofs.Ytcmhkknoffeebaa.Blk Go.Proofs.Ytcmhkknoffeebaa.Chan Go.Proofs.Ytcmhkknoffeebaa.RingC Go.Proofs.Ytcmhkknoffeebaa.Stages

section
variable {w w' w2 : World} {B d c : Nat} {C : Option Nat} {zs us ys : List Int} {F : Nat → Prop}

/-- The numbers us are told; ys wait behind the call. -/
def CPost (B d : Nat) (C : Option Nat) (w : World) (us ys : List Int) (e : Ending) (w' : World) : Prop :=
  ∃ A c, e = .returned (.slice A us.length c) ∧ Sl w' w'.heap.size .i64 A us.length us ∧ (∀ x, A = some x → w.heap.size ≤ x.block) ∧ RingC w' B d C ys ∧ Kept (RF B d w) w w'

theorem infoI : (Try.prog.info? 3).map (fun i => (i.zero, i.size, i.bytes)) = some (some (.int .i64 0), 1, 8) := by kernel_rfl

theorem gdrain_nil : Calls Try.prog 27 #[.pointer none] w fun e w' => e = .returned (.slice none 0 0) ∧ w = w' := by
  go_enter Try.func27, Try.ntmps27
  go_wp2
  go_step3
  go_wp2
  rw [Exit.noGoto_ret]
  go_ret
  exact ⟨rfl, rfl⟩

set_option maxHeartbeats 1000000 in
theorem gdrain_none (h : RingC w B d none []) : Calls Try.prog 27 #[.pointer (some ⟨d, 0, none⟩)] w fun e w' => e = .returned (.slice none 0 0) ∧ w = w' := by
  have c0 := h.blk.cell 0
  simp only [List.getElem?_cons_zero] at c0
  clear h
  go_enter Try.func27, Try.ntmps27
  go_wp2
  go_step3
  go_wp2
  go_step3
  go_wp2
  go_loopg [3] 0 (fun gx v wr => v = .slice none 0 0 ∧ w = wr)
  case atStart => exact ⟨rfl, rfl⟩
  case round =>
    obtain ⟨rfl, rfl⟩ := hrel
    go_upto_region 5 with (fail)
    refine wp_inReg ?_
    simp only [List.size_toArray, List.length_cons, List.length_nil, Nat.reduceAdd, Nat.zero_add, List.range, List.range.loop]
    refine InReg.never (z := .int .i64 0) (w' := w) rfl rfl (by simp [go_sem, execOp, rcaseNil, Act.eval]) ?_
    refine InReg.op rfl rfl fun K hK => ?_
    go_simp
    refine hK _ _ ?_
    clear hK K
    refine InReg.op rfl rfl fun K hK => ?_
    go_simp
    refine hK _ _ (InReg.nil ?_)
    clear hK K
    go_wp2
    rw [Exit.noGoto_ret]
    go_ret
    exact ⟨rfl, rfl⟩

/-- The channel behind one receive. -/
theorem chan_head {x : Int} {l : List Int} (h : Chan8 w c (x :: l)) : ∃ s r, w.heap[c]? = some (.chan 8 (vals (x :: l)).toArray false s r false) ∧ 0 < (vals (x :: l)).toArray.size ∧ (vals (x :: l)).toArray.getD 0 undef = .int .i64 x ∧ (vals (x :: l)).toArray.extract 1 (vals (x :: l)).toArray.size = (vals l).toArray := by
  obtain ⟨s, r, h⟩ := h
  exact ⟨s, r, h, by simp, by simp, by simp [List.take_of_length_le]⟩

theorem kept_below {a b e : World} (h : Kept F a b) (k : Below a.heap.size b e) : Kept F a e :=
  ⟨k.os.trans h.os, k.tape.trans h.tape, k.output.trans h.output, Nat.le_trans h.size k.size, fun i hi hf => (k.block i hi).trans (h.block i hi hf)⟩

/-- While numbers are told: j of them. -/
structure Mid (w : World) (B d c : Nat) (zs : List Int) (j : Nat) (v : Value) (wr : World) : Prop where
  own : wr.ownsRow w.heap.size 3 1 v j (vals (zs.take j))
  blk : Blk wr d 66 [.chan (some c)]
  ch : Chan8 wr c (zs.drop j)
  kept : Kept (RF B d w) w wr

set_option maxHeartbeats 1000000 in
theorem gdrain_some (h : RingC w B d (some c) zs) : Calls Try.prog 27 #[.pointer (some ⟨d, 0, none⟩)] w (CPost B d (some c) w zs []) := by
  obtain ⟨hb, hlow, hch, hlen⟩ := h
  obtain ⟨hBc, hc⟩ : B ≤ c ∧ Chan8 w c zs := by
    rcases hch with ⟨e, _⟩ | ⟨c', e, h1, h2⟩
    · cases e
    · injection e with e
      subst e
      exact ⟨h1, h2⟩
  have HIS := Lib.hid hc.is
  have HLT := Lib.hid hc.lt
  have HDLT := Lib.hid hb.lt
  have HM : Hid (Mid w B d c zs 0 (.slice none 0 0) w) := ⟨World.ownsRow_nil _ _ _ _, hb, hc, Kept.refl _ _⟩
  have HLEN := Lib.hid hlen
  clear hb hch hc hlen
  go_enter Try.func27, Try.ntmps27
  go_wp2
  go_step3
  go_wp2
  go_step3
  go_wp2
  go_loopg [3] zs.length (fun gx v wr => ∃ j : Nat, j + gx = zs.length ∧ Mid w B d c zs j v wr)
  case atStart => exact ⟨0, by omega, HM.out⟩
  case round =>
    obtain ⟨j, hg, hm⟩ := hrel
    have HG := Lib.hid hg
    have HMR := Lib.hid hm
    have c0 := hm.blk.cell 0
    simp only [List.getElem?_cons_zero] at c0
    have hch := hm.ch
    clear hg hm HM
    go_upto_region 5 with (fail)
    refine wp_inReg ?_
    simp only [List.size_toArray, List.length_cons, List.length_nil, Nat.reduceAdd, Nat.zero_add, List.range, List.range.loop]
    by_cases hj : j < zs.length
    · obtain ⟨x, l, hx⟩ : ∃ x l, zs.drop j = x :: l := by
        cases e : zs.drop j with
        | nil => rw [List.drop_eq_nil_iff] at e; omega
        | cons x l => exact ⟨x, l, rfl⟩
      have hl : zs.drop (j + 1) = l := by rw [show j + 1 = j + 1 from rfl, ← List.drop_drop, hx]; rfl
      have hxj : zs[j]? = some x := by
        have := congrArg (·[0]?) hx
        simpa using this
      have HT : Hid (zs.take (j + 1) = zs.take j ++ [x]) := by
        show _ = _
        rw [List.take_add_one, hxj]; rfl
      rw [hx] at hch
      obtain ⟨s, r, h1, h2, h3, h4⟩ := chan_head hch
      have HR1 := HMR.out
      have HB1 : Hid (Blk (wr.setChan c 8 (vals l).toArray false s (r + 1) false) d 66 [.chan (some c)]) := blk_setChan HR1.blk (HR1.ch.ne HR1.blk)
      have HO1 : Hid ((wr.setChan c 8 (vals l).toArray false s (r + 1) false).ownsRow w.heap.size 3 1 u3 j (vals (zs.take j))) := own_of_block HR1.own fun g _ hn => heap_setChan_other fun e => hn (e ▸ HR1.ch.is)
      have HC1 : Hid (Chan8 (wr.setChan c 8 (vals l).toArray false s (r + 1) false) c l) := hch.set _ _ _
      have HK1 : Hid (Kept (RF B d w) w (wr.setChan c 8 (vals l).toArray false s (r + 1) false)) := kept_setChan HR1.kept fun _ => .inr ⟨hBc, HIS.out⟩
      refine InReg.taken (z := .int .i64 0) (w' := wr) rfl rfl (by simp [go_sem, execOp, rcase, Act.eval]) h1 h2 ?_
      rw [h3, h4]
      generalize wr.setChan c 8 (vals l).toArray false s (r + 1) false = w1 at HB1 HO1 HC1 HK1 ⊢
      have HL := Lib.hid hl
      have HX := Lib.hid hx
      have hjz : j ≤ 8 := by have := HLEN.out; omega
      clear h1 h2 h3 h4 hch HR1 hl hx hxj HMR c0
      refine InReg.op rfl rfl fun K hK => ?_
      go_simp
      refine hK _ _ ?_
      clear hK K
      refine InReg.op rfl rfl fun K hK => ?_
      go_simp
      refine hK _ _ (InReg.nil ?_)
      clear hK K
      have hbs : w.heap.size ≤ w1.heap.size := HK1.out.size
      go_wp2_with (at_builtin; refine wpList_append_one rfl (.tmp 15) (.tmp 17) 40 rfl w.heap.size 3 (.int .i64 0) 8 Try.underlying40 infoI rfl _ j _ rfl (World.ownsRow.alloc HO1.out _) w1.heap.size (.int .i64 x) rfl (cell_new1 _ _ _) rfl (by unfold maxLen; omega) (by omega) (by simp; omega) ?_; intro g cap w2 hown hbel; have HOW := Lib.hid hown; have HBW := Lib.hid hbel; clear hown hbel)
      have HB2 : Hid (Below w.heap.size w1 w2) := ((Below.refl w.heap.size w1).alloc hbs _).trans HBW.out
      go_roundg (gk - 1)
      case measure => have := HG.out; omega
      case rel =>
        refine ⟨j + 1, by have := HG.out; omega, ?_, HB1.out.below HB2.out HDLT.out, ?_, ?_⟩
        · rw [HT.out]
          simpa using HOW.out
        · rw [HL.out]
          exact HC1.out.of_block (HB2.out.block c HLT.out)
        · exact kept_below HK1.out HB2.out
    · obtain rfl : j = zs.length := by have := HG.out; omega
      have hd0 : zs.drop zs.length = [] := by simp
      rw [hd0] at hch
      obtain ⟨s, r, h1⟩ := hch
      refine InReg.empty (z := .int .i64 0) (w' := wr) rfl rfl (by simp [go_sem, execOp, rcase, Act.eval]) h1 ?_
      obtain ⟨A', c', rfl, hsl⟩ := Sl.of_row1 (n := zs.length) HMR.out.own
      have HNEW : Hid (∀ x, A' = some x → w.heap.size ≤ x.block) := fun x e => (World.ownsRow.lt HMR.out.own x.block (by rw [e]; rfl)).1
      rw [List.take_length] at hsl
      have HSL := Lib.hid hsl
      have HRC : Hid (RingC wr B d (some c) []) := ⟨HMR.out.blk, hlow, .inr ⟨c, rfl, hBc, s, r, h1⟩, Nat.zero_le _⟩
      have HK := Lib.hid HMR.out.kept
      clear h1 hsl HMR c0 hd0 hj
      refine InReg.op rfl rfl fun K hK => ?_
      go_simp
      refine hK _ _ ?_
      clear hK K
      refine InReg.op rfl rfl fun K hK => ?_
      go_simp
      refine hK _ _ (InReg.nil ?_)
      clear hK K
      go_wp2
      rw [Exit.noGoto_ret]
      go_ret
      exact ⟨A', c', rfl, HSL.out, HNEW.out, HRC.out, HK.out⟩
theorem gdrain_c (h : RingC w B d C zs) : Calls Try.prog 27 #[.pointer (some ⟨d, 0, none⟩)] w (CPost B d C w zs []) := by
  rcases h.ch with ⟨rfl, rfl⟩ | ⟨c, rfl, _⟩
  · refine (gdrain_none h).mono ?_
    rintro e w' ⟨rfl, rfl⟩
    exact ⟨none, 0, rfl, Sl.nil _ _ _ _, fun x hx => (by cases hx), h, Kept.refl _ _⟩
  · exact gdrain_some h
end
end Go.Proofs.Ytcmhkknoffeebaa.RingD
