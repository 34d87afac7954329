/-
  lavabolaw8.told tells true, in every world.
-/
import Derived.Test.YtodmjclkfadooaaRingForget
namespace Go.Proofs.Ytodmjclkfadooaa.Told8
open Go.ChangeShapes Go.WideShapes Go.ChangeAt Go.RowKit Go.Conc
open Go.Proofs.Ytodmjclkfadooaa.Mem Go.Proofs.Ytodmjclkfadooaa.Blk Go.Proofs.Ytodmjclkfadooaa.Chan Go.Proofs.Ytodmjclkfadooaa.RingC Go.Proofs.Ytodmjclkfadooaa.RingD Go.Proofs.Ytodmjclkfadooaa.RingT Go.Proofs.Ytodmjclkfadooaa.RingF Go.Proofs.Ytodmjclkfadooaa.Stages

/-- What waits, what was told last, when j touches are made of 0, 1, 2, 0, .. -/
def tT (j : Nat) : List Int := (List.range j).map fun i => ((i % 3 : Nat) : Int)
def tS (j : Nat) : List Int := if j = 8 then [] else tT j
def tU (j : Nat) : List Int := if j = 8 then tT 8 else []
theorem t_step : ∀ j, j < 8 → toldBy (tS j) ((j % 3 : Nat) : Int) = tU (j + 1) ∧ waitBy (tS j) ((j % 3 : Nat) : Int) = tS (j + 1) ∧ (tS j).length ≤ 7 ∧ (tU (j + 1)).length = if j < 7 then 0 else 8 := by decide

section
variable {w w1 w' : World} {B d : Nat} {zs us ys : List Int}
theorem t_touch (h : RingAt w B d zs) (f : Int) (hl : zs.length ≤ 7) (hu : toldBy zs f = us) (hy : waitBy zs f = ys) :
    Calls Try.prog 9 #[.pointer (some ⟨d, 0, none⟩), .int .i64 f] w (APost B d w us ys) := by
  have := gtouch_any h f hl
  rwa [hu, hy] at this
theorem t_forget (h : RingAt w B d zs) (f : Int) (n : Int) (hn : (cntBy zs f : Int) = n) (hy : keepBy zs f = ys) :
    Calls Try.prog 10 #[.pointer (some ⟨d, 0, none⟩), .int .i64 f] w fun e w' => e = .returned (.int .i64 n) ∧ RingAt w' B d ys ∧ Kept (RF B d w) w w' := by
  have := gforget_any h f
  rwa [hn, hy] at this
theorem t_len (h : RingAt w B d zs) (n : Int) (hn : (zs.length : Int) = n) : Calls Try.prog 17 #[.pointer (some ⟨d, 0, none⟩)] w fun e w' => e = .returned (.int .i64 n) ∧ w = w' := by
  have := glen_any h
  rwa [hn] at this
/-- Whatever a ring of the call's own did, nothing that was there has turned. -/
theorem RF.final (h : Grow w w1) (k : Kept (RF B d w1) w1 w') (hB : w.heap.size ≤ B) (hd : w.heap.size ≤ d) : Grow w w' :=
  h.then k fun i hi hf => by rcases hf with e | ⟨e, _⟩ <;> omega
end

def TLoop (w1 : World) (B d g : Nat) (v i : Value) (wr : World) : Prop :=
  ∃ j : Nat, j + g = 8 ∧ i = .int .i64 (j : Int) ∧ ∃ A c, v = .slice A (tU j).length c ∧ Sl wr wr.heap.size .i64 A (tU j).length (tU j) ∧ (∀ x, A = some x → x.block ≠ d) ∧ RingAt wr B d (tS j) ∧ Kept (RF B d w1) w1 wr

set_option maxHeartbeats 2000000 in
theorem told_any (w : World) : Calls Try.prog 12 #[] w fun e w' => e = .returned (.bool true) ∧ Grow w w' := by
  go_enter Try.func12, Try.ntmps12
  go_wp2_with (go_at_call 8; (with_reducible refine gnew_any.mono ?_); rintro e w1 ⟨rfl, hr, hg⟩; have HR := Lib.hid (hr _ (Nat.le_refl _)); have HG0 := Lib.hid hg; clear hr hg)
  generalize hB : w.heap.size = B at HR ⊢
  have HB := Lib.hid hB
  clear hB
  go_loopg [2, 3] 8 (TLoop w1 B B)
  case atStart => exact ⟨0, by omega, rfl, none, 0, rfl, Sl.nil _ _ _ _, fun x hx => (by cases hx), HR.out, Kept.refl _ _⟩
  case round =>
    obtain ⟨j, hg, rfl, A, c, rfl, hs, hA, hr, hk⟩ := hrel
    have HG := Lib.hid hg
    have HS := Lib.hid hs
    have HA := Lib.hid hA
    have HRR := Lib.hid hr
    have HK := Lib.hid hk
    clear hg hs hA hr hk HR
    by_cases hj : j < 8
    · obtain ⟨h1, h2, h3, h4⟩ := t_step j hj
      have HT := Lib.hid (t_touch HRR.out ((j % 3 : Nat) : Int) h3 h1 h2)
      have hm : ((j % 3 : Nat) : Int) = (j : Int) % 3 := by omega
      rw [hm] at HT
      clear hm
      have HU := Lib.hid h4
      have hjz : (j : Int) < 8 := by omega
      clear h1 h2 h3 h4
      by_cases h7 : j < 7
      · have hu0 : (tU (j + 1)).length = 0 := by rw [HU.out, if_pos h7]
        have HUU := Lib.hid hu0
        have h7z : (j : Int) < 7 := by omega
        go_wp2_with (go_at_call 9; (with_reducible refine HT.out.mono ?_); rintro e w2 ⟨A2, c2, rfl, hs, hn, hr, hk⟩; have HS2 := Lib.hid hs; have HN2 := Lib.hid hn; have HR2 := Lib.hid hr; have HK2 := Lib.hid hk; clear hs hn hr hk)
        go_roundg (gk - 1)
        case measure => have := HG.out; omega
        case rel => exact ⟨j + 1, by have := HG.out; omega, by go_num, A2, c2, by rw [HUU.out], HS2.out, fun x hx => (by have h1 := HN2.out x hx; have h2 := HRR.out.lt; omega), HR2.out, RF.trans HK.out HK2.out⟩
      · have hu0 : (tU (j + 1)).length = 8 := by rw [HU.out, if_neg h7]
        have HUU := Lib.hid hu0
        have h7z : 7 ≤ (j : Int) := by omega
        go_wp2_with (go_at_call 9; (with_reducible refine HT.out.mono ?_); rintro e w2 ⟨A2, c2, rfl, hs, hn, hr, hk⟩; have HS2 := Lib.hid hs; have HN2 := Lib.hid hn; have HR2 := Lib.hid hr; have HK2 := Lib.hid hk; clear hs hn hr hk)
        go_roundg (gk - 1)
        case measure => have := HG.out; omega
        case rel => exact ⟨j + 1, by have := HG.out; omega, by go_num, A2, c2, by rw [HUU.out], HS2.out, fun x hx => (by have h1 := HN2.out x hx; have h2 := HRR.out.lt; omega), HR2.out, RF.trans HK.out HK2.out⟩
    · obtain rfl : j = 8 := by have := HG.out; omega
      have e1 : tU 8 = [0, 1, 2, 0, 1, 2, 0, 1] := by decide
      have e2 : tS 8 = [] := by decide
      rw [e1] at HS ⊢
      rw [e2] at HRR
      obtain ⟨b, o, rfl, _, hc⟩ := HS.out.at_ (by decide)
      have r1 := hc 1 (by decide)
      have hbd := HA.out _ rfl
      have HNE : Hid (∀ j, (⟨b, o + j, none⟩ : Addr).block ≠ B) := fun _ => hbd
      clear hc hbd e1 e2 HA
      simp only [List.length_cons, List.length_nil, Nat.reduceAdd, List.getD_cons_succ, List.getD_cons_zero] at HS r1 ⊢
      go_wp2_with (first
        | (go_at_call 9; (with_reducible refine (t_touch (us := []) (ys := [4]) HRR.out 4 (by decide) (by decide) (by decide)).mono ?_); rintro e w2 ⟨A2, c2, rfl, _, _, hr, hk⟩; have HR2 := Lib.hid hr; have HK2 := Lib.hid hk; have x2 := RF.cell hk r1 (HNE.out 1); clear hr hk)
        | (go_at_call 9; (with_reducible refine (t_touch (us := []) (ys := [4, 5]) HR2.out 5 (by decide) (by decide) (by decide)).mono ?_); rintro e w3 ⟨A3, c3, rfl, _, _, hr, hk⟩; have HR3 := Lib.hid hr; have HK3 := Lib.hid hk; have x3 := RF.cell hk x2 (HNE.out 1); clear hr hk)
        | (go_at_call 9; (with_reducible refine (t_touch (us := []) (ys := [4, 5, 4]) HR3.out 4 (by decide) (by decide) (by decide)).mono ?_); rintro e w4 ⟨A4, c4, rfl, _, _, hr, hk⟩; have HR4 := Lib.hid hr; have HK4 := Lib.hid hk; have x4 := RF.cell hk x3 (HNE.out 1); clear hr hk)
        | (go_at_call 10; (with_reducible refine (t_forget (ys := [5]) HR4.out 4 2 (by decide) (by decide)).mono ?_); rintro e w5 ⟨rfl, hr, hk⟩; have HR5 := Lib.hid hr; have HK5 := Lib.hid hk; have x5 := RF.cell hk x4 (HNE.out 1); clear hr hk)
        | (go_at_call 11; (with_reducible refine (gdrain_any HR5.out).mono ?_); rintro e w6 ⟨A6, c6, rfl, hs, _, hr, hk⟩; have HR6 := Lib.hid hr; have HK6 := Lib.hid hk; obtain ⟨b6, o6, rfl, _, hc6⟩ := hs.at_ (by decide); have y0 := hc6 0 (by decide); have x6 := RF.cell hk x5 (HNE.out 1); simp only [Nat.add_zero, List.getD_cons_zero, List.length_cons, List.length_nil, Nat.reduceAdd] at y0 ⊢; clear hr hk hs hc6)
        | (go_at_call 17; (with_reducible refine (t_len HR6.out 0 (by decide)).mono ?_); rintro e w' ⟨rfl, rfl⟩)
        | (go_at_call 9; (with_reducible refine (gtouch_bad B (-1) (by decide)).mono ?_); rintro e w' ⟨rfl, rfl⟩)
        | (go_at_call 9; (with_reducible refine (gtouch_nil 1).mono ?_); rintro e w' ⟨rfl, rfl⟩)
        | (go_at_call 17; (with_reducible refine glen_nil.mono ?_); rintro e w' ⟨rfl, rfl⟩))
      go_ret
      refine ⟨rfl, ?_⟩
      have hk := RF.trans (RF.trans (RF.trans (RF.trans (RF.trans HK.out HK2.out) HK3.out) HK4.out) HK5.out) HK6.out
      exact RF.final HG0.out hk (by have := HB.out; omega) (by have := HB.out; omega)
end Go.Proofs.Ytodmjclkfadooaa.Told8
