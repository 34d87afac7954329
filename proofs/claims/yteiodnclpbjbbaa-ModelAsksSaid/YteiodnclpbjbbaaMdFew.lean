/-
  lavaboref13.SameRes where it tells true; lavabolaw13.Few.
-/
import Derived.Test.YteiodnclpbjbbaaPmSame
namespace Go.Proofs.Yteiodnclpbjbbaa.MdJ
open Go.ChangeShapes Go.WideShapes Go.ChangeAt Go.RowKit
open Go.Proofs.Yteiodnclpbjbbaa.Mem Go.Proofs.Yteiodnclpbjbbaa.Blk Go.Proofs.Yteiodnclpbjbbaa.Cells Go.Proofs.Yteiodnclpbjbbaa.Orow Go.Proofs.Yteiodnclpbjbbaa.MdM Go.Proofs.Yteiodnclpbjbbaa.MdC Go.Proofs.Yteiodnclpbjbbaa.PmC Go.Proofs.Yteiodnclpbjbbaa.PmM Go.Proofs.Yteiodnclpbjbbaa.PmS Go.Proofs.Yteiodnclpbjbbaa.Stages

section
variable {w : World} {A A' AT AB AH : Option Addr} {n m m' cT cB cH : Nat} {zs : List Int} {c p h : Int} {s : St}
set_option maxHeartbeats 2000000 in
theorem rsame_true (hz : Sl w w.heap.size .u8 A n zs) (hy : Sl w w.heap.size .u8 A' n zs) : Calls Try.prog 20 #[.agg #[.int .i64 c, .int .i64 p, .int .i64 h, .slice A n m], .agg #[.int .i64 c, .int .i64 p, .int .i64 h, .slice A' n m']] w fun e w' => e = .returned (.bool true) ∧ Grow w w' := by
  have hb := Blk.new w 31 [.int .i64 c, .int .i64 p, .int .i64 h, .slice A n m]
  have hg : Grow w (w.alloc (.cells #[.int .i64 c, .int .i64 p, .int .i64 h, .slice A n m] 31)) := (Kept.refl _ _).alloc _
  have hz1 : (w.alloc (.cells #[.int .i64 c, .int .i64 p, .int .i64 h, .slice A n m] 31)).heap.size = w.heap.size + 1 := by simp
  have hb2 := Blk.new (w.alloc (.cells #[.int .i64 c, .int .i64 p, .int .i64 h, .slice A n m] 31)) 31 [.int .i64 c, .int .i64 p, .int .i64 h, .slice A' n m']
  have hg2 : Grow (w.alloc (.cells #[.int .i64 c, .int .i64 p, .int .i64 h, .slice A n m] 31)) ((w.alloc (.cells #[.int .i64 c, .int .i64 p, .int .i64 h, .slice A n m] 31)).alloc (.cells #[.int .i64 c, .int .i64 p, .int .i64 h, .slice A' n m'] 31)) := (Kept.refl _ _).alloc _
  rw [hz1] at hb2
  have hb1 := hb.grow hg2
  have HG0 := Lib.hid (hg.trans hg2)
  have k1 := (sl_grow hz HG0.out).str (P := Try.prog) 22 9 5 Try.underlying22 Try.underlying5 Try.underlying9 m
  have k2 := (sl_grow hy HG0.out).str (P := Try.prog) 22 9 5 Try.underlying22 Try.underlying5 Try.underlying9 m'
  generalize strOfNums zs = sx at k1 k2
  have s0 := hb1.cell 0
  have s1 := hb1.cell 1
  have s2 := hb1.cell 2
  have s3 := hb1.cell 3
  have t0 := hb2.cell 0
  have t1 := hb2.cell 1
  have t2 := hb2.cell 2
  have t3 := hb2.cell 3
  simp only [List.getElem?_cons_zero, List.getElem?_cons_succ] at s0 s1 s2 s3 t0 t1 t2 t3
  clear hb hg hz1 hb2 hg2 hb1 hz hy
  go_enter Try.func20, Try.ntmps20
  go_upto_region 1 with (fail)
  generalize (w.alloc (.cells #[.int .i64 c, .int .i64 p, .int .i64 h, .slice A n m] 31)).alloc (.cells #[.int .i64 c, .int .i64 p, .int .i64 h, .slice A' n m'] 31) = w0 at *
  go_wp2
  go_ret
  exact ⟨rfl, HG0.out⟩
set_option maxHeartbeats 4000000 in
theorem few_any (hp : Parts w AT cT AB cB AH cH s) : Calls Try.prog 13 #[stv AT cT AB cB AH cH s] w (Tells s.few w) := by
  have hb := Blk.new w 28 [.slice AT s.nT cT, .slice AB s.nB cB, .slice AH s.nH cH]
  have HG0 : Hid (Grow w (w.alloc (.cells #[.slice AT s.nT cT, .slice AB s.nB cB, .slice AH s.nH cH] 28))) := (Kept.refl _ _).alloc _
  have s0 := hb.cell 0
  have s1 := hb.cell 1
  have s2 := hb.cell 2
  simp only [List.getElem?_cons_zero, List.getElem?_cons_succ] at s0 s1 s2
  obtain ⟨bb, bo, be, hbr⟩ := lists_form (hp.B.grow HG0.out)
  obtain ⟨hb', ho, he, hhr⟩ := lists_form (hp.H.grow HG0.out)
  have HBR := Lib.hid hbr
  have HHR := Lib.hid hhr
  have HBE := Lib.hid be
  have HHE := Lib.hid he
  obtain ⟨P, hP⟩ : ∃ P, P = Tells s.few w := ⟨_, rfl⟩
  have HP := Lib.hid hP
  clear hb hp hbr hhr be he
  unfold stv
  rw [← hP]
  clear hP
  by_cases h1 : 60 < (s.nT : Int)
  · have HN : Hid (¬ s.few) := fun x => by have := x.nT; omega
    go_enter Try.func13, Try.ntmps13
    go_upto_region 1 with (fail)
    generalize w.alloc (.cells #[.slice AT s.nT cT, .slice AB s.nB cB, .slice AH s.nH cH] 28) = w0 at *
    go_wp2
    rw [HP.out]
    exact Tells.no HN.out HG0.out
  have h1' : (s.nT : Int) ≤ 60 := by omega
  by_cases h2 : 60 < (s.nB : Int)
  · have HN : Hid (¬ s.few) := fun x => by have := x.nB; omega
    clear h1
    go_enter Try.func13, Try.ntmps13
    go_upto_region 1 with (fail)
    generalize w.alloc (.cells #[.slice AT s.nT cT, .slice AB s.nB cB, .slice AH s.nH cH] 28) = w0 at *
    go_wp2
    rw [HP.out]
    exact Tells.no HN.out HG0.out
  have h2' : (s.nB : Int) ≤ 60 := by omega
  by_cases h3 : 8 < (s.nH : Int)
  · have HN : Hid (¬ s.few) := fun x => by have := x.nH; omega
    clear h1 h2
    go_enter Try.func13, Try.ntmps13
    go_upto_region 1 with (fail)
    generalize w.alloc (.cells #[.slice AT s.nT cT, .slice AB s.nB cB, .slice AH s.nH cH] 28) = w0 at *
    go_wp2
    rw [HP.out]
    exact Tells.no HN.out HG0.out
  have h3' : (s.nH : Int) ≤ 8 := by omega
  clear h1 h2 h3
  go_enter Try.func13, Try.ntmps13
  go_upto_region 1 with (fail)
  generalize w.alloc (.cells #[.slice AT s.nT cT, .slice AB s.nB cB, .slice AH s.nH cH] 28) = w0 at *
  go_wp2
  go_loopg [3] s.nB (fun gx i wr => ∃ j : Nat, j + gx = s.nB ∧ i = .int .i64 (j : Int) ∧ w0 = wr ∧ ∀ t, t < j → (s.B t).length ≤ 40)
  case atStart => exact ⟨0, by omega, rfl, rfl, fun t h => absurd h (Nat.not_lt_zero t)⟩
  case round =>
    obtain ⟨j, hg, rfl, rfl, hok⟩ := hrel
    have HG := Lib.hid hg
    have HOK := Lib.hid hok
    clear hg hok
    by_cases hj : j < s.nB
    · have hjz : (j : Int) < (s.nB : Int) := by omega
      have HJ := Lib.hid hj
      obtain rfl := HBE.out (by omega)
      obtain ⟨A', c', r1, hsl⟩ := HBR.out j hj
      have HL := Lib.hid (rfl : (s.B j).length = (s.B j).length)
      by_cases h40 : 40 < ((s.B j).length : Int)
      · have HN : Hid (¬ s.few) := fun x => by have := x.B j HJ.out; omega
        clear hj hsl
        generalize (s.B j).length = l at r1 h40
        go_wp2
        rw [HP.out]
        exact Tells.no HN.out HG0.out
      · have HL40 : Hid ((s.B j).length ≤ 40) := by show _ ≤ _; omega
        have h40' : ((s.B j).length : Int) ≤ 40 := by omega
        clear hj hsl h40
        generalize (s.B j).length = l at r1 h40'
        go_wp2
        go_roundg (gk - 1)
        case measure => have := HG.out; have := HJ.out; omega
        case rel => exact ⟨j + 1, by have := HG.out; have := HJ.out; omega, by go_num, rfl, fun t ht => by
          by_cases e : t = j
          · subst e; exact HL40.out
          · exact HOK.out t (by omega)⟩
    · obtain rfl : j = s.nB := by have := HG.out; omega
      have HBS : Hid (∀ t, t < s.nB → (s.B t).length ≤ 40) := HOK.out
      clear hj HOK HG
      go_wp2
      go_loopg [4] s.nH (fun gx i wr => ∃ j : Nat, j + gx = s.nH ∧ i = .int .i64 (j : Int) ∧ w0 = wr ∧ ∀ t, t < j → (s.H t).length ≤ 10)
      case atStart => exact ⟨0, by omega, rfl, rfl, fun t h => absurd h (Nat.not_lt_zero t)⟩
      case round =>
        obtain ⟨j, hg, rfl, rfl, hok⟩ := hrel
        have HG := Lib.hid hg
        have HOK := Lib.hid hok
        clear hg hok
        by_cases hj : j < s.nH
        · have hjz : (j : Int) < (s.nH : Int) := by omega
          have HJ := Lib.hid hj
          obtain rfl := HHE.out (by omega)
          obtain ⟨A', c', r1, hsl⟩ := HHR.out j hj
          by_cases h10 : 10 < ((s.H j).length : Int)
          · have HN : Hid (¬ s.few) := fun x => by have := x.H j HJ.out; omega
            clear hj hsl
            generalize (s.H j).length = l at r1 h10
            go_wp2
            rw [HP.out]
            exact Tells.no HN.out HG0.out
          · have HL10 : Hid ((s.H j).length ≤ 10) := by show _ ≤ _; omega
            have h10' : ((s.H j).length : Int) ≤ 10 := by omega
            clear hj hsl h10
            generalize (s.H j).length = l at r1 h10'
            go_wp2
            go_roundg (gk - 1)
            case measure => have := HG.out; have := HJ.out; omega
            case rel => exact ⟨j + 1, by have := HG.out; have := HJ.out; omega, by go_num, rfl, fun t ht => by
              by_cases e : t = j
              · subst e; exact HL10.out
              · exact HOK.out t (by omega)⟩
        · obtain rfl : j = s.nH := by have := HG.out; omega
          have HFEW : Hid s.few := ⟨by omega, by omega, by omega, HBS.out, HOK.out⟩
          clear hj
          go_wp2
          rw [HP.out]
          exact Tells.yes HFEW.out HG0.out
end
end Go.Proofs.Yteiodnclpbjbbaa.MdJ
