/-
  Package tidy (chapter 21): Pick, at every slice of frames.
-/
import Derived.Test.YtabmefffeafifaaTd
import Derived.RegionTactic
import Derived.WalkSpells
namespace Go.Proofs.Ytabmefffeafifaa.TdC
open Go.ChangeShapes Go.WideShapes Go.ChangeAt Go.RowKit
open Go.Proofs.Ytabmefffeafifaa.Mem Go.Proofs.Ytabmefffeafifaa.Blk Go.Proofs.Ytabmefffeafifaa.Cells Go.Proofs.Ytabmefffeafifaa.GsC Go.Proofs.Ytabmefffeafifaa.FrmC Go.Proofs.Ytabmefffeafifaa.TdM Go.Proofs.Ytabmefffeafifaa.Stages

section
variable {w w' : World} {A : Option Addr} {n m c : Nat} {f : Nat → Fm}
/-- What Pick tells: the places, in memory of the call's own. -/
def PickP (w : World) (l : List Nat) (e : Ending) (w' : World) : Prop := ∃ A' c', e = .returned (.slice A' l.length c') ∧ Gs w' A' l.length c' (ints l) ∧ Grow w w' ∧ ∀ k, blk A' c' k → w.heap.size ≤ k
/-- 'append(places, place)'. -/
theorem push_int {wx : World} {A : Option Addr} {c : Nat} {l : List Nat} (h : Gs wx A l.length c (ints l)) (hb : ∀ k, blk A c k → w.heap.size ≤ k) (hg : Grow w wx) (hl : l.length ≤ 1000) (x : Nat) :
    ∃ A' c' w2, (∀ ty, (Builtin.append_ #[26, 26] ty #[.slice A l.length c, .slice (some ⟨wx.heap.size, 0, none⟩) 1 1]).run Try.prog (wx.alloc (.cells #[.int .i64 (x : Int)] 3)) = .ok (.slice A' ((l ++ [x]).length) c') w2) ∧ Gs w2 A' (l ++ [x]).length c' (ints (l ++ [x])) ∧ (∀ k, blk A' c' k → w.heap.size ≤ k) ∧ Grow w w2 := by
  have hc : (wx.alloc (.cells #[.int .i64 (x : Int)] 3)).cell? ⟨wx.heap.size, 0, none⟩ = some (.int .i64 (x : Int)) := (Blk.new wx 3 [.int .i64 (x : Int)]).cell 0
  have h1 := Gs.grow h ((Kept.refl _ wx).alloc (.cells #[.int .i64 (x : Int)] 3))
  obtain ⟨A', c', w2, hr, hg2, hk, hb2⟩ := append_gs 0 h1 (by omega) wx.heap.size (x : Int) hc
  have e1 : (l ++ [x]).length = l.length + 1 := by simp
  have e2 : ints (l ++ [x]) = ints l ++ [(x : Int)] := by simp [ints]
  rw [e1, e2]
  refine ⟨A', c', w2, fun ty => hr, hg2, fun k hk' => ?_, ?_⟩
  · have := hg.size
    rcases hb2 k hk' with h | h
    · exact hb k h
    · simp at h; omega
  · exact (hg.alloc _).then hk fun k hk1 hk2 => by have := hb k hk2; omega
theorem pick_any {a k : Nat} (h : Fr w A n f) (hn : n ≤ 1000) (ha : a ≤ 1000000) (hk : k ≤ 1000000) : Calls Try.prog 4 #[.slice A n c, .int .i64 (a : Int), .int .i64 (k : Int)] w (PickP w (pick f n a k n)) := by
  have HF := Lib.hid h
  have HT := Lib.hid fun (w : World) (x : Fm) => mayGo_any (w := w) x
  have HA := Lib.hid fun (w : World) (j : Nat) (hj : j < n) => around_any (w := w) ha hj hn
  have hnz : (n : Int) ≤ 1000 := by omega
  have haz : (a : Int) ≤ 1000000 := by omega
  have hkz : (k : Int) ≤ 1000000 := by omega
  have HN := Lib.hid hn
  generalize hP : PickP w (pick f n a k n) = POST
  have HP := Lib.hid hP
  clear h hn ha hk hP
  go_enter Try.func4, Try.ntmps4
  go_wp2
  go_step3
  go_wp2
  go_step3
  go_wp2
  go_loopg [7, 12] n (fun gx v i wr => ∃ (j : Nat) (B : Option Addr) (d : Nat), j + gx = n ∧ i = .int .i64 (j : Int) ∧ v = .slice B (pick f n a k j).length d ∧ Gs wr B (pick f n a k j).length d (ints (pick f n a k j)) ∧ (∀ k, blk B d k → w.heap.size ≤ k) ∧ Grow w wr)
  case atStart => exact ⟨0, none, 0, by omega, rfl, rfl, Gs.nil _ _, fun k h => absurd h blk_zero, Kept.refl _ _⟩
  case round =>
    obtain ⟨j, B, d, hg, rfl, rfl, hgs, hbk, hgr⟩ := hrel
    have HG := Lib.hid hg
    have HGS := Lib.hid hgs
    have HBK := Lib.hid hbk
    have HGR := Lib.hid hgr
    clear hg hgs hbk hgr
    by_cases hj : j < n
    · have hjz : (j : Int) < (n : Int) := by omega
      have HJ := Lib.hid hj
      have HAj := Lib.hid fun (w : World) => HA.out w j hj
      have hq : (a + j) % n < n := Nat.mod_lt _ (by omega)
      obtain ⟨b, o, rfl, hc⟩ := (HF.out.grow HGR.out) (by omega)
      obtain ⟨r0, r1, r2, r3, r4⟩ := hc _ hq
      have hqz : (((a + j) % n : Nat) : Int) < (n : Int) := by omega
      have HTx := Lib.hid fun (w : World) => HT.out w (f ((a + j) % n))
      have HLEN : Hid ((pick f n a k j).length ≤ k ∧ (pick f n a k j).length ≤ j) := pk_len
      have HFULL : Hid (k ≤ (pick f n a k j).length → pick f n a k n = pick f n a k j) := fun h => pk_full (g := fun q => may (f q)) h n (by omega)
      have HIN : Hid ((pick f n a k j).length < k → may (f ((a + j) % n)) = true → pick f n a k (j + 1) = pick f n a k j ++ [(a + j) % n]) := fun h1 h2 => pk_in h1 h2
      have HOUT : Hid (may (f ((a + j) % n)) = false → pick f n a k (j + 1) = pick f n a k j) := fun h => pk_out h
      clear hc hj hq
      generalize (a + j) % n = q at *
      generalize hl : pick f n a k j = l at *
      have HL := Lib.hid hl
      clear hl
      have hlz : (l.length : Int) ≤ 1000 := by have := HLEN.out.2; have := HN.out; have := HJ.out; omega
      by_cases hfull : k ≤ l.length
      · have hfz : (k : Int) ≤ (l.length : Int) := by omega
        have HE := Lib.hid (HFULL.out hfull)
        clear HFULL HIN HOUT HTx hfull
        go_wp2_with (go_at_call 7; (with_reducible refine (HAj.out _).mono ?_); rintro e w1 ⟨rfl, rfl⟩)
        rw [← HP.out]
        exact ⟨B, d, by rw [HE.out]; rfl, by rw [HE.out]; exact HGS.out, HGR.out, HBK.out⟩
      · have hfz : (l.length : Int) < (k : Int) := by omega
        have HF2 := Lib.hid (show l.length < k by omega)
        clear HFULL hfull
        generalize f q = x at *
        obtain ⟨st, pg, pins, sh, dt⟩ := x
        dsimp only at r0 r1 r2 r3 r4
        unfold Fm.val at HTx
        dsimp only at HTx
        generalize may (Fm.mk st pg pins sh dt) = v at *
        cases v with
        | true =>
          have HE := Lib.hid (HIN.out HF2.out rfl)
          clear HIN HOUT
          go_wp2_with (first
            | (go_at_call 7; (with_reducible refine (HAj.out _).mono ?_); rintro e w1 ⟨rfl, rfl⟩)
            | (go_at_call 8; (with_reducible refine (HTx.out _).mono ?_); rintro e w1 ⟨rfl, hgw⟩; obtain ⟨A', c', w2, hr, hg2, hb2, hgr2⟩ := push_int (HGS.out.grow hgw) HBK.out (HGR.out.trans hgw) (by have := HLEN.out.2; have := HN.out; have := HJ.out; omega) q; have HR := Lib.hid hr; have HGS2 := Lib.hid hg2; have HBK2 := Lib.hid hb2; have HGR2 := Lib.hid hgr2; clear hgw hr hg2 hb2 hgr2)
            | (at_builtin; refine Lib.wpList_append_run _ rfl _ _ _ _ rfl _ _ rfl rfl _ _ (HR.out _) ?_))
          go_roundg (gk - 1)
          case measure => have := HG.out; omega
          case rel => exact ⟨j + 1, A', c', by have := HG.out; omega, by go_num, by rw [HE.out, List.length_append]; rfl, by rw [HE.out]; exact HGS2.out, HBK2.out, HGR2.out⟩
        | false =>
          have HE := Lib.hid (HOUT.out rfl)
          clear HIN HOUT
          go_wp2_with (first
            | (go_at_call 7; (with_reducible refine (HAj.out _).mono ?_); rintro e w1 ⟨rfl, rfl⟩)
            | (go_at_call 8; (with_reducible refine (HTx.out _).mono ?_); rintro e w1 ⟨rfl, hgw⟩; have HGR2 := Lib.hid hgw; clear hgw))
          go_roundg (gk - 1)
          case measure => have := HG.out; omega
          case rel => exact ⟨j + 1, B, d, by have := HG.out; omega, by go_num, by rw [HE.out], by rw [HE.out]; exact HGS.out.grow HGR2.out, HBK.out, HGR.out.trans HGR2.out⟩
    · obtain rfl : j = n := by have := HG.out; omega
      generalize pick f j a k j = l at *
      go_wp2
      rw [← HP.out]
      exact ⟨B, d, rfl, HGS.out, HGR.out, HBK.out⟩
end
end Go.Proofs.Ytabmefffeafifaa.TdC
