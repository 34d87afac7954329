/-
  The document's Bad and SameRes (lavaboref13).
-/
import Derived.Test.YtjdlpknflhgkfaaHsBad
namespace Go.Proofs.Ytjdlpknflhgkfaa.HsC
open Go.ChangeShapes Go.WideShapes Go.ChangeAt Go.RowKit
open Go.Proofs.Ytjdlpknflhgkfaa.Mem Go.Proofs.Ytjdlpknflhgkfaa.Blk Go.Proofs.Ytjdlpknflhgkfaa.Cells Go.Proofs.Ytjdlpknflhgkfaa.Orow Go.Proofs.Ytjdlpknflhgkfaa.MdM Go.Proofs.Ytjdlpknflhgkfaa.HsM Go.Proofs.Ytjdlpknflhgkfaa.HsE Go.Proofs.Ytjdlpknflhgkfaa.HsB Go.Proofs.Ytjdlpknflhgkfaa.PmC Go.Proofs.Ytjdlpknflhgkfaa.PmM Go.Proofs.Ytjdlpknflhgkfaa.PmS Go.Proofs.Ytjdlpknflhgkfaa.Stages

section
variable {w w' : World} {A A' : Option Addr} {n n' m m' : Nat} {zs ys : List Int} {c p h c' p' h' : Int}
set_option maxHeartbeats 2000000 in
theorem rbad_any (k p h o n c : Int) (D : Option Addr) (dl dc : Nat) (w : World) : Calls Try.prog 21 #[.agg #[.int .i64 k, .int .i64 p, .int .i64 h, .int .i64 o, .int .i64 n, .slice D dl dc], .int .i64 c] w (Tells (badC k c) w) := by
  have hb := Blk.new w 25 [.int .i64 k, .int .i64 p, .int .i64 h, .int .i64 o, .int .i64 n, .slice D dl dc]
  have s0 := hb.cell 0
  simp only [List.getElem?_cons_zero] at s0
  have HG : Hid (Grow w (w.alloc (.cells #[.int .i64 k, .int .i64 p, .int .i64 h, .int .i64 o, .int .i64 n, .slice D dl dc] 25))) := (Kept.refl _ _).alloc _
  clear hb
  go_enter Try.func21, Try.ntmps21
  go_upto_region 1 with (fail)
  generalize w.alloc (.cells #[.int .i64 k, .int .i64 p, .int .i64 h, .int .i64 o, .int .i64 n, .slice D dl dc] 25) = w0 at *
  generalize w.heap.size = g at *
  by_cases c8 : c = 8
  · by_cases k1 : k = 1
    · have HP := Lib.hid (badC_yes1 c8 (.inl k1))
      subst c8 k1
      go_wp2
      go_ret
      exact Tells.yes HP.out HG.out
    · by_cases k2 : k = 2
      · have HP := Lib.hid (badC_yes1 c8 (.inr k2))
        subst c8 k2
        go_wp2
        go_ret
        exact Tells.yes HP.out HG.out
      · have HP : Hid (¬ badC k c) := fun h => by unfold badC at h; omega
        subst c8
        have k1' : (k == 1) = false := by simpa using k1
        have k2' : (k == 2) = false := by simpa using k2
        clear k1 k2
        go_wp2
        go_ret
        exact Tells.no HP.out HG.out
  · by_cases c9 : c = 9
    · by_cases k1 : k = 1
      · have HP := Lib.hid (badC_yes2 c9 (.inl k1))
        subst c9 k1
        clear c8
        go_wp2
        go_ret
        exact Tells.yes HP.out HG.out
      by_cases k2 : k = 2
      · have HP := Lib.hid (badC_yes2 c9 (.inr (.inl k2)))
        subst c9 k2
        clear c8 k1
        go_wp2
        go_ret
        exact Tells.yes HP.out HG.out
      by_cases k6 : k = 6
      · have HP := Lib.hid (badC_yes2 c9 (.inr (.inr (.inl k6))))
        subst c9 k6
        clear c8 k1 k2
        go_wp2
        go_ret
        exact Tells.yes HP.out HG.out
      by_cases k7 : k = 7
      · have HP := Lib.hid (badC_yes2 c9 (.inr (.inr (.inr k7))))
        subst c9 k7
        clear c8 k1 k2 k6
        go_wp2
        go_ret
        exact Tells.yes HP.out HG.out
      have HP : Hid (¬ badC k c) := fun h => by unfold badC at h; omega
      subst c9
      have k1' : (k == 1) = false := by simpa using k1
      have k2' : (k == 2) = false := by simpa using k2
      have k6' : (k == 6) = false := by simpa using k6
      have k7' : (k == 7) = false := by simpa using k7
      clear c8 k1 k2 k6 k7
      go_wp2
      go_ret
      exact Tells.no HP.out HG.out
    · by_cases c10 : c = 10
      · by_cases k2 : k = 2
        · have HP := Lib.hid (badC_yes3 c10 k2)
          subst c10 k2
          clear c8 c9
          go_wp2
          go_ret
          exact Tells.yes HP.out HG.out
        · have HP : Hid (¬ badC k c) := fun h => by unfold badC at h; omega
          subst c10
          have k2' : (k == 2) = false := by simpa using k2
          clear c8 c9 k2
          go_wp2
          go_ret
          exact Tells.no HP.out HG.out
      · have HP : Hid (¬ badC k c) := fun h => by unfold badC at h; omega
        have c8' : (c == 8) = false := by simpa using c8
        have c9' : (c == 9) = false := by simpa using c9
        have c10' : (c == 10) = false := by simpa using c10
        clear c8 c9 c10
        go_wp2
        go_ret
        exact Tells.no HP.out HG.out
set_option maxHeartbeats 2000000 in
theorem rsame_any (hz : Sl w w.heap.size .u8 A n zs) (hy : Sl w w.heap.size .u8 A' n' ys) (bz : Bytes zs) (by' : Bytes ys) : Calls Try.prog 52 #[.agg #[.int .i64 c, .int .i64 p, .int .i64 h, .slice A n m], .agg #[.int .i64 c', .int .i64 p', .int .i64 h', .slice A' n' m']] w (Tells (c = c' ∧ p = p' ∧ h = h' ∧ zs = ys) w) := by
  have hb := Blk.new w 27 [.int .i64 c, .int .i64 p, .int .i64 h, .slice A n m]
  have hg : Grow w (w.alloc (.cells #[.int .i64 c, .int .i64 p, .int .i64 h, .slice A n m] 27)) := (Kept.refl _ _).alloc _
  have hz1 : (w.alloc (.cells #[.int .i64 c, .int .i64 p, .int .i64 h, .slice A n m] 27)).heap.size = w.heap.size + 1 := by simp
  have hb2 := Blk.new (w.alloc (.cells #[.int .i64 c, .int .i64 p, .int .i64 h, .slice A n m] 27)) 27 [.int .i64 c', .int .i64 p', .int .i64 h', .slice A' n' m']
  have hg2 : Grow (w.alloc (.cells #[.int .i64 c, .int .i64 p, .int .i64 h, .slice A n m] 27)) ((w.alloc (.cells #[.int .i64 c, .int .i64 p, .int .i64 h, .slice A n m] 27)).alloc (.cells #[.int .i64 c', .int .i64 p', .int .i64 h', .slice A' n' m'] 27)) := (Kept.refl _ _).alloc _
  rw [hz1] at hb2
  have hb1 := hb.grow hg2
  have HG0 := Lib.hid (hg.trans hg2)
  have k1 := (sl_grow hz HG0.out).str (P := Try.prog) 23 9 5 Try.underlying23 Try.underlying5 Try.underlying9 m
  have k2 := (sl_grow hy HG0.out).str (P := Try.prog) 23 9 5 Try.underlying23 Try.underlying5 Try.underlying9 m'
  have HSJ : Hid (strOfNums zs = strOfNums ys ↔ zs = ys) := ⟨str_inj bz by', fun e => by rw [e]⟩
  generalize strOfNums zs = sx at k1 HSJ
  generalize strOfNums ys = sy at k2 HSJ
  have s0 := hb1.cell 0
  have s1 := hb1.cell 1
  have s2 := hb1.cell 2
  have s3 := hb1.cell 3
  have t0 := hb2.cell 0
  have t1 := hb2.cell 1
  have t2 := hb2.cell 2
  have t3 := hb2.cell 3
  simp only [List.getElem?_cons_zero, List.getElem?_cons_succ] at s0 s1 s2 s3 t0 t1 t2 t3
  clear hb hg hz1 hb2 hg2 hb1 hz hy bz by'
  obtain ⟨P, hP⟩ : ∃ P, P = Tells (c = c' ∧ p = p' ∧ h = h' ∧ zs = ys) w := ⟨_, rfl⟩
  have HP := Lib.hid hP
  rw [← hP]
  clear hP
  by_cases e1 : c = c'
  · subst e1
    by_cases e2 : p = p'
    · subst e2
      by_cases e3 : h = h'
      · subst e3
        go_enter Try.func52, Try.ntmps52
        go_upto_region 1 with (fail)
        generalize (w.alloc (.cells #[.int .i64 c, .int .i64 p, .int .i64 h, .slice A n m] 27)).alloc (.cells #[.int .i64 c, .int .i64 p, .int .i64 h, .slice A' n' m'] 27) = w0 at *
        by_cases es : sx = sy
        · have HP1 : Hid (c = c ∧ p = p ∧ h = h ∧ zs = ys) := ⟨rfl, rfl, rfl, HSJ.out.1 es⟩
          subst es
          go_wp2
          rw [HP.out]
          exact Tells.yes HP1.out HG0.out
        · have HP1 : Hid (¬ (c = c ∧ p = p ∧ h = h ∧ zs = ys)) := fun h => es (HSJ.out.2 h.2.2.2)
          have hx2 : (sx.toList == sy.toList) = false := by
            rw [Bool.eq_false_iff]
            intro h
            have h := eq_of_beq h
            rw [ByteArray.toList_eq, ByteArray.toList_eq] at h
            exact es (ByteArray.ext (Array.ext' h))
          clear es
          go_wp2
          rw [HP.out]
          exact Tells.no HP1.out HG0.out
      · have HN : Hid (¬ (c = c ∧ p = p ∧ h = h' ∧ zs = ys)) := fun x => e3 x.2.2.1
        have hb : (h == h') = false := by simpa using e3
        clear e3
        go_enter Try.func52, Try.ntmps52
        go_upto_region 1 with (fail)
        generalize (w.alloc (.cells #[.int .i64 c, .int .i64 p, .int .i64 h, .slice A n m] 27)).alloc (.cells #[.int .i64 c, .int .i64 p, .int .i64 h', .slice A' n' m'] 27) = w0 at *
        go_wp2
        rw [HP.out]
        exact Tells.no HN.out HG0.out
    · have HN : Hid (¬ (c = c ∧ p = p' ∧ h = h' ∧ zs = ys)) := fun x => e2 x.2.1
      have hb : (p == p') = false := by simpa using e2
      clear e2
      go_enter Try.func52, Try.ntmps52
      go_upto_region 1 with (fail)
      generalize (w.alloc (.cells #[.int .i64 c, .int .i64 p, .int .i64 h, .slice A n m] 27)).alloc (.cells #[.int .i64 c, .int .i64 p', .int .i64 h', .slice A' n' m'] 27) = w0 at *
      go_wp2
      rw [HP.out]
      exact Tells.no HN.out HG0.out
  · have HN : Hid (¬ (c = c' ∧ p = p' ∧ h = h' ∧ zs = ys)) := fun x => e1 x.1
    have hb : (c == c') = false := by simpa using e1
    clear e1
    go_enter Try.func52, Try.ntmps52
    go_upto_region 1 with (fail)
    generalize (w.alloc (.cells #[.int .i64 c, .int .i64 p, .int .i64 h, .slice A n m] 27)).alloc (.cells #[.int .i64 c', .int .i64 p', .int .i64 h', .slice A' n' m'] 27) = w0 at *
    go_wp2
    rw [HP.out]
    exact Tells.no HN.out HG0.out
end
end Go.Proofs.Ytjdlpknflhgkfaa.HsC
