/-
  What the document's Apply computes (chapter 8).
-/
import Derived.Test.YtodmjclkfadooaaRingApply
namespace Go.Proofs.Ytodmjclkfadooaa.RingB
open Go.ChangeShapes Go.WideShapes Go.ChangeAt Go.RowKit Go.Conc
open Go.Proofs.Ytodmjclkfadooaa.Mem Go.Proofs.Ytodmjclkfadooaa.Blk Go.Proofs.Ytodmjclkfadooaa.ListM Go.Proofs.Ytodmjclkfadooaa.Rowed Go.Proofs.Ytodmjclkfadooaa.ListC Go.Proofs.Ytodmjclkfadooaa.ListD Go.Proofs.Ytodmjclkfadooaa.ListR Go.Proofs.Ytodmjclkfadooaa.ListS Go.Proofs.Ytodmjclkfadooaa.ListT Go.Proofs.Ytodmjclkfadooaa.RingA Go.Proofs.Ytodmjclkfadooaa.Stages

section
variable {w : World} {q n : Nat} {F : Nat → Prop} {zs : List Nat}
set_option maxHeartbeats 1000000 in
theorem rapply_any (h : RefAt w q n F zs) (hf : Fine n zs) (hn : n ≤ 1024) (low : ∀ k, F k → k < w.heap.size) {B' m : Nat} {A : Option Addr} {ts : List Int} (c : Nat) (hs : Sl w B' .i64 A m ts) (hA : 0 < m → ∀ x, A = some x → x.block ≠ q) (hm : m ≤ 100000) :
    Calls Try.prog 22 #[.pointer (some ⟨q, 0, none⟩), .slice A m c] w fun e w' => e = .returned (.tuple #[]) ∧ RefAt w' q n F (applyL n zs ts) ∧ Kept (· = q) w w' := by
  have H := Lib.hid h
  have HS := Lib.hid hs
  have HA := Lib.hid hA
  have HLOW := Lib.hid low
  have HF := Lib.hid (fun t => hf.apply (ts.take t))
  have hmz : (m : Int) ≤ 100000 := by omega
  clear h hs hA low hf
  go_enter Try.func22, Try.ntmps22
  go_wp2
  go_loopg [4] m (fun gx i wr => ∃ t : Nat, t + gx = m ∧ i = .int .i64 (t : Int) ∧ RefAt wr q n F (applyL n zs (ts.take t)) ∧ Kept (· = q) w wr)
  case atStart => exact ⟨0, by omega, rfl, H.out, Kept.refl _ _⟩
  case round =>
    obtain ⟨t, hg, rfl, hl, hk⟩ := hrel
    have HG := Lib.hid hg
    have HL := Lib.hid hl
    have HK := Lib.hid hk
    clear hg hl hk
    by_cases ht : t < m
    · have htz : (t : Int) < (m : Int) := by omega
      obtain ⟨b, o, rfl, _, hc⟩ := HS.out.at_ (by omega)
      have hbq := HA.out (by omega) ⟨b, o, none⟩ rfl
      have r1 := HK.out.cellN (hc t ht) hbq
      have HR1 : Hid (∀ wx, Kept (· = q) wr wx → wx.cell? ⟨b, o + t, none⟩ = some (.int .i64 (ts.getD t 0))) := fun wx hk => hk.cellN r1 hbq
      have HX := Lib.hid (ts_snoc (ts := ts) (j := t) (by rw [HS.out.len]; exact ht))
      clear hc hbq
      generalize ts.getD t 0 = x at *
      have hfn := HF.out t
      have hln := Nat.le_trans hfn.len hn
      have CO := Lib.hid (rout_any HL.out x hfn.1 hln (fun k h => Nat.lt_of_lt_of_le (HLOW.out k h) HK.out.size))
      have hfo := hfn.out x
      have CF : Hid (∀ wx, RefAt wx q n F (outL (applyL n zs (ts.take t)) x) → wr.heap.size ≤ wx.heap.size → Calls Try.prog 30 #[.pointer (some ⟨q, 0, none⟩), .int .i64 x] wx (RPost q n F wx (.bool (okF n (outL (applyL n zs (ts.take t)) x) x)) (frontL n (outL (applyL n zs (ts.take t)) x) x))) := fun wx h hs => rfront_any h x hfo.1 (Nat.le_trans hfo.len hn) hfo.2 (fun k h => Nat.lt_of_lt_of_le (Nat.lt_of_lt_of_le (HLOW.out k h) HK.out.size) hs)
      have HE : Hid (applyL n zs (ts.take (t + 1)) = mv n (applyL n zs (ts.take t)) x) := by show _ = _; rw [HX.out, applyL_snoc]
      clear hfn hln hfo
      cases ho : okO (applyL n zs (ts.take t)) x with
      | true =>
        rw [ho] at CO
        have HE2 : Hid (applyL n zs (ts.take (t + 1)) = frontL n (outL (applyL n zs (ts.take t)) x) x) := by show _ = _; rw [HE.out, mv, if_pos ho]
        clear ho
        go_wp2_with (first
          | (go_at_call 29; (with_reducible refine CO.out.mono ?_); rintro e w2 ⟨rfl, hl, hk⟩; have HL2 := Lib.hid hl; have HK2 := Lib.hid hk; have r2 := HR1.out _ hk; clear hl hk)
          | (go_at_call 30; (with_reducible refine (CF.out _ HL2.out HK2.out.size).mono ?_); rintro e w3 ⟨rfl, hl, hk⟩; have HL3 := Lib.hid hl; have HK3 := Lib.hid hk; clear hl hk))
        go_roundg (m - (t + 1))
        case measure => have := HG.out; omega
        case rel => exact ⟨t + 1, by have := HG.out; omega, by go_num, by rw [HE2.out]; exact HL3.out, (HK.out.trans HK2.out).trans HK3.out⟩
      | false =>
        rw [ho] at CO
        have HE2 : Hid (applyL n zs (ts.take (t + 1)) = outL (applyL n zs (ts.take t)) x) := by show _ = _; rw [HE.out, mv, if_neg (by simp [ho]), outL, if_neg (by simp [ho])]
        clear ho
        go_wp2_with (go_at_call 29; (with_reducible refine CO.out.mono ?_); rintro e w2 ⟨rfl, hl, hk⟩; have HL2 := Lib.hid hl; have HK2 := Lib.hid hk; clear hl hk)
        go_roundg (m - (t + 1))
        case measure => have := HG.out; omega
        case rel => exact ⟨t + 1, by have := HG.out; omega, by go_num, by rw [HE2.out]; exact HL2.out, HK.out.trans HK2.out⟩
    · obtain rfl : t = m := by have := HG.out; omega
      have ha : ts.take t = ts := List.take_of_length_le (by rw [HS.out.len]; omega)
      have HQ : Hid (RefAt wr q n F (applyL n zs ts)) := by
        have := HL.out
        rwa [ha] at this
      clear ha
      go_wp2
      go_end0
      exact ⟨rfl, HQ.out, HK.out⟩
end
end Go.Proofs.Ytodmjclkfadooaa.RingB
