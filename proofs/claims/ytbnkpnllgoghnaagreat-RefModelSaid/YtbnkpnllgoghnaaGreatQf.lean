/-
  Texts behind the statements of this seat: part 6.
-/
import Derived.Test.YtbnkpnllgoghnaaGreatChecked
import Derived.Test.YtbnkpnllgoghnaaGreatQa
import Derived.Test.YtbnkpnllgoghnaaGreatQe
import Derived.Test.YtbnkpnllgoghnaaGreatQb
import Derived.Deep.Cut
import Derived.Deep.DeepCutAuto
import Derived.Deep.CutBlock
import Derived.Test.YtbnkpnllgoghnaaGreatQc
import Derived.Test.YtbnkpnllgoghnaaGreatRows
import Derived.Deep.Slices
import Derived.Deep.Fields
import Derived.ChangeSame
import Derived.ProofKit
import Derived.Test.YtbnkpnllgoghnaaGreatQd
import Derived.Lib.ConvBytes
import Derived.Deep.QuietTactic
import Derived.BigQuiet
set_option linter.unusedVariables false

namespace Go.Proofs.YtbnkpnllgoghnaaGreat.PageC
open Go.ChangeShapes Go.WideShapes Go.ChangeAt Go.RowKit
open Go.Proofs.YtbnkpnllgoghnaaGreat.SumM Go.Proofs.YtbnkpnllgoghnaaGreat.Mem Go.Proofs.YtbnkpnllgoghnaaGreat.SumC Go.Proofs.YtbnkpnllgoghnaaGreat.Blk Go.Proofs.YtbnkpnllgoghnaaGreat.PageM
theorem infoU8 : (Tryz.prog.info? 5).map (fun i => (i.zero, i.size, i.bytes)) = some (some (.int .u8 0), 1, 1) := by kernel_rfl
theorem sizeU8 : (Tryz.prog.info? 5).map (·.size) = some 1 := by kernel_rfl
theorem isPage_any (id : Int) (w : World) (hlo : -9223372036854775808 ≤ id) (hhi : id < 9223372036854775808) :
    Calls Tryz.prog 81 #[.int .i64 id] w fun e w' => e = .returned (.bool (isPage id)) ∧ w = w' := by
  have HP : Hid (isPage id = (decide (0 ≤ id) && decide (id < 48))) := rfl
  by_cases h0 : 0 ≤ id
  · by_cases h1 : id < 48
    · go_enter Tryz.func81, Tryz.ntmps81
      go_wp2
      go_ret
      exact ⟨by rw [HP.out]; simp [h0, h1], rfl⟩
    · have h1' : 48 ≤ id := by omega
      go_enter Tryz.func81, Tryz.ntmps81
      go_wp2
      go_ret
      exact ⟨by rw [HP.out]; simp [h1], rfl⟩
  · have h0' : id < 0 := by omega
    go_enter Tryz.func81, Tryz.ntmps81
    go_wp2
    go_ret
    exact ⟨by rw [HP.out, decide_eq_false (by omega)]; rfl, rfl⟩
/-- A slice of bytes that the call made: the block g, known whole. -/
def FreshBytes (w : World) (n : Nat) (zs : List Int) (e : Ending) (w' : World) : Prop :=
  ∃ g, e = .returned (.slice (some ⟨g, 0, none⟩) n n) ∧ w.heap.size ≤ g ∧ NBlk w' g 5 .u8 zs ∧ Grow w w'
theorem blank_any (w : World) : Calls Tryz.prog 84 #[] w (FreshBytes w 24 (zeros 24)) := by
  have hmk := fun w => run_make_row' (P := Tryz.prog) 22 5 (.int .u8 0) 1 Tryz.underlying22 infoU8 rfl .i64 .i64 24 (by omega) (by omega) w
  simp only [Int.cast_ofNat_Int] at hmk
  go_enter Tryz.func84, Tryz.ntmps84
  go_wp2
  go_ret
  exact ⟨w.heap.size, rfl, Nat.le_refl _, NBlk.made w _ _ 24, (Kept.refl _ _).alloc _⟩
theorem zeros_at {w : World} {g n : Nat} (h : NBlk w g 5 .u8 (zeros n)) : ∀ j, j < n → w.cell? ⟨g, j, none⟩ = some (.int .u8 0) := fun j hj => by
  rw [NBlk.at_ h (by rw [zeros_len]; exact hj)]
  simp [zeros, List.getD_eq_getElem?_getD, hj]
/-- What Seal tells of what it takes. -/
def SealGood (w : World) (id : Int) (zs : List Int) (e : Ending) (w' : World) : Prop :=
  ∃ g, e = .returned (.tuple #[.slice (some ⟨g, 0, none⟩) 24 24, .int .i64 0]) ∧ w.heap.size ≤ g ∧ NBlk w' g 5 .u8 (sealI id zs) ∧ Grow w w'
set_option maxHeartbeats 1000000 in
theorem seal_good (id : Int) (A : Option Addr) (cap B : Nat) (zs : List Int) (w : World) (h0 : 0 ≤ id) (h1 : id < 48) (hz : Bytes zs) (h : Sl w B .u8 A 16 zs) (hB : B ≤ w.heap.size) :
    Calls Tryz.prog 82 #[.int .i64 id, .slice A 16 cap] w (SealGood w id zs) := by
  have HP := Lib.hid (isPage_any id w (by omega) (by omega))
  have hp : isPage id = true := by simp [isPage, h0, h1]
  rw [hp] at HP
  clear hp
  obtain ⟨b, off, rfl, hb, hcell⟩ := h.at_ (by omega)
  have HC := Lib.hid hcell
  have HS := Lib.hid h
  clear hcell h
  go_enter Tryz.func82, Tryz.ntmps82
  go_upto_region 7 with (first
    | (go_at_call 81; (with_reducible refine HP.out.mono ?_); rintro e w' ⟨rfl, rfl⟩)
    | (go_at_call 84; (with_reducible refine (blank_any _).mono ?_); rintro e w1 ⟨g, rfl, hg, hblk, hgr⟩; have hc := zeros_at hblk; have hf := Blk.frozenAll hblk; have HBLK := Lib.hid hblk; have HGR := Lib.hid hgr; clear hblk hgr))
  have hblk := HBLK.out
  have hgr := HGR.out
  have hb4 := (((NBlk.set hblk 4 (id + 1)).set 5 ((id + 1) / 256)).set 6 90).set 7 165
  have hgr4 := (((hgr.setCell (p := ⟨g, 4, none⟩) (fun h => absurd h (by show ¬ g < _; omega)) (.int .u8 (id + 1))).setCell (p := ⟨g, 5, none⟩) (fun h => absurd h (by show ¬ g < _; omega)) (.int .u8 ((id + 1) / 256))).setCell (p := ⟨g, 6, none⟩) (fun h => absurd h (by show ¬ g < _; omega)) (.int .u8 90)).setCell (p := ⟨g, 7, none⟩) (fun h => absurd h (by show ¬ g < _; omega)) (.int .u8 165)
  clear hc hf hblk hgr HBLK HGR
  generalize ((((w1.setCell { block := g, off := 4 } (Value.int IntKind.u8 (id + 1))).setCell { block := g, off := 5 } (Value.int IntKind.u8 ((id + 1) / 256))).setCell { block := g, off := 6 } (Value.int IntKind.u8 90)).setCell { block := g, off := 7 } (Value.int IntKind.u8 165)) = w2 at hb4 hgr4 ⊢
  have HB4 := Lib.hid hb4
  have HG4 := Lib.hid hgr4
  clear hb4 hgr4
  have hsrc : Sl w2 B .u8 (some ⟨b, off, none⟩) 16 zs := Sl.kept HS.out HG4.out hB fun _ _ x => x
  obtain ⟨w3, hcopy, hb5, hk5⟩ := run_copy (P := Tryz.prog) 22 22 3 5 Tryz.underlying22 sizeU8 HB4.out 8 16 16 cap hsrc 16 (by decide) (by simp [zeros])
  have HG5 : Hid (Grow w w3) := HG4.out.then hk5 fun k hk e => by omega
  rw [List.take_of_length_le (Nat.le_of_eq hsrc.len)] at hb5
  have hq : (id + 1) / 256 = 0 := by omega
  have e5 : (((((zeros 24).set 4 (id + 1)).set 5 ((id + 1) / 256)).set 6 90).set 7 165).take 8 = [0, 0, 0, 0] ++ hdr id := by rw [hq]; rfl
  have e6 : (((((zeros 24).set 4 (id + 1)).set 5 ((id + 1) / 256)).set 6 90).set 7 165).drop (8 + 16) = [] := rfl
  rw [e5, e6, List.append_nil, List.append_assoc] at hb5
  have hlz : zs.length = 16 := hsrc.len
  have hb6 : NBlk w3 g 5 .u8 ([0, 0, 0, 0] ++ tail id zs) := hb5
  have ht := tail_bytes h0 h1 hz
  have htl : (tail id zs).length = 20 := by rw [tail_len]; omega
  have hs4 : Sl w3 w3.heap.size .u8 (some ⟨g, 4, none⟩) 20 (tail id zs) := by
    have := Sl.of_blk (B := w3.heap.size) hb6 4 20 (by simp [htl]) (Blk.lt hb6)
    have e : (([0, 0, 0, 0] ++ tail id zs).drop 4).take 20 = tail id zs := List.take_of_length_le (Nat.le_of_eq htl)
    rwa [e] at this
  have hc : ∀ j, j < 24 → w3.cell? ⟨g, j, none⟩ = some (.int .u8 (([0, 0, 0, 0] ++ tail id zs).getD j 0)) := fun j hj => NBlk.at_ hb6 (by simp [htl]; omega)
  have hf := Blk.frozenAll hb6
  have HO := Lib.hid (of_any (some ⟨g, 4, none⟩) 20 20 _ (tail id zs) w3 ht (by unfold maxLen; omega) hs4)
  have hu := ofI_u32 ht
  have HB6 := Lib.hid hb6
  have HT : Hid (sealI id zs = le4 (ofI (tail id zs)) ++ tail id zs) := rfl
  clear hb5 hk5 e5 e6 hb6 hs4 hsrc HB4 HG4 HP HC HS hq hlz htl
  generalize ofI (tail id zs) = s at hu HO HT
  obtain ⟨hu0, hu1⟩ := hu
  generalize tail id zs = ts at *
  go_wp2_with (go_at_call 137; (with_reducible refine HO.out.mono ?_); rintro e w' ⟨rfl, rfl⟩)
  go_ret2
  have hl : s / 16777216 = s / 16777216 % 256 := by omega
  have hb7 := (((NBlk.set HB6.out 0 (s % 256)).set 1 (s / 256 % 256)).set 2 (s / 65536 % 256)).set 3 (s / 16777216)
  refine ⟨g, rfl, hg, ?_, (((HG5.out.setCell (p := ⟨g, 0, none⟩) (fun h => absurd h (by show ¬ g < _; omega)) _).setCell (p := ⟨g, 1, none⟩) (fun h => absurd h (by show ¬ g < _; omega)) _).setCell (p := ⟨g, 2, none⟩) (fun h => absurd h (by show ¬ g < _; omega)) _).setCell (p := ⟨g, 3, none⟩) (fun h => absurd h (by show ¬ g < _; omega)) _⟩
  rw [HT.out, le4, ← hl]
  exact hb7
theorem take_snoc' (l : List Int) (k : Nat) (h : k < l.length) : l.take (k + 1) = l.take k ++ [l.getD k 0] := by
  rw [List.take_succ_eq_append_getElem h, List.getD_eq_getElem?_getD, List.getElem?_eq_getElem h]; rfl
/-- Which of two lists zs is. -/
def whichI (zs x y : List Int) : Int := if x = zs then 0 else if y = zs then 1 else -1
set_option maxHeartbeats 1000000 in
theorem which_any (A A0 A1 : Option Addr) (n cap c0 c1 gs : Nat) (B : Nat) (zs x y : List Int) (w : World) (hn : n ≤ maxLen)
    (h : Sl w B .u8 A n zs) (hx : Sl w B .u8 A0 n x) (hy : Sl w B .u8 A1 n y) (g0 : w.cell? ⟨gs, 0, none⟩ = some (.slice A0 n c0)) (g1 : w.cell? ⟨gs, 1, none⟩ = some (.slice A1 n c1)) :
    Calls Tryz.prog 83 #[.slice A n cap, .slice (some ⟨gs, 0, none⟩) 2 2] w fun e w' => e = .returned (.int .i64 (whichI zs x y)) ∧ w = w' := by
  unfold maxLen at hn
  have HZ := Lib.hid h
  have HX := Lib.hid hx
  have HY := Lib.hid hy
  clear h hx hy
  go_enter Tryz.func83, Tryz.ntmps83
  go_wp2
  go_step3
  go_wp2
  go_step3
  go_wp2
  go_loopg [11] 2 (fun g i wr => ∃ j : Nat, j + g = 2 ∧ i = .int .i64 (j : Int) ∧ (1 ≤ j → x ≠ zs) ∧ (2 ≤ j → y ≠ zs) ∧ w = wr)
  case atStart => exact ⟨0, rfl, rfl, fun h => absurd h (by omega), fun h => absurd h (by omega), rfl⟩
  case round =>
    obtain ⟨j, hg, rfl, q1, q2, rfl⟩ := hrel
    have Q1 := Lib.hid q1
    have Q2 := Lib.hid q2
    clear q1 q2
    match j, hg with
    | 0, hg =>
      obtain rfl : gk = 2 := by omega
      clear hg
      simp only [Int.cast_ofNat_Int]
      go_wp2
      go_loopg [18] n (fun g i wr => ∃ q : Nat, q + g = n ∧ i = .int .i64 (q : Int) ∧ x.take q = zs.take q ∧ w = wr)
      case atStart => exact ⟨0, by omega, rfl, rfl, rfl⟩
      case round =>
        obtain ⟨q, hq, rfl, ht, rfl⟩ := hrel
        have lx := HX.out.len
        have lz := HZ.out.len
        by_cases hlt : q < n
        · obtain ⟨b, off, rfl, _, hcell⟩ := HZ.out.at_ (by omega)
          obtain ⟨b', off', rfl, _, hcell'⟩ := HX.out.at_ (by omega)
          have hc := hcell q hlt
          have hc' := hcell' q hlt
          have HSX := Lib.hid (take_snoc' x q (by omega))
          have HSZ := Lib.hid (take_snoc' zs q (by omega))
          have HQ := Lib.hid hq
          have HT := Lib.hid ht
          have HM : Hid (x.getD q 0 ≠ zs.getD q 0 → x ≠ zs) := fun h1 h2 => h1 (by rw [h2])
          clear hq ht hcell hcell' lx lz
          generalize x.getD q 0 = c at hc' HSX HM
          generalize zs.getD q 0 = d at hc HSZ HM
          by_cases he : c = d
          · subst he
            go_wp2
            go_roundg (gk - 1)
            case measure => have := HQ.out; omega
            case rel => exact ⟨q + 1, by have := HQ.out; omega, by go_num, by rw [HSX.out, HSZ.out, HT.out], rfl⟩
          · have hn' : (c != d) = true := by simpa [bne_iff_ne] using he
            go_wp2
            go_roundg 1
            case measure => omega
            case rel => exact ⟨1, by omega, by go_num, fun _ => HM.out he, fun h => absurd h (by omega), rfl⟩
        · have e : x = zs := by
            have e1 : q = n := by omega
            rw [e1, List.take_of_length_le (by omega), List.take_of_length_le (by omega)] at ht
            exact ht
          have HW : Hid (whichI zs x y = 0) := by
            show whichI zs x y = 0
            unfold whichI
            rw [if_pos e]
          clear ht e lx lz hq
          go_wp2
          rw [Exit.noGoto_ret]
          go_ret
          exact ⟨by rw [HW.out]; rfl, rfl⟩
    | 1, hg =>
      obtain rfl : gk = 1 := by omega
      clear hg
      simp only [Int.cast_ofNat_Int]
      go_wp2
      go_loopg [18] n (fun g i wr => ∃ q : Nat, q + g = n ∧ i = .int .i64 (q : Int) ∧ y.take q = zs.take q ∧ w = wr)
      case atStart => exact ⟨0, by omega, rfl, rfl, rfl⟩
      case round =>
        obtain ⟨q, hq, rfl, ht, rfl⟩ := hrel
        have lx := HY.out.len
        have lz := HZ.out.len
        by_cases hlt : q < n
        · obtain ⟨b, off, rfl, _, hcell⟩ := HZ.out.at_ (by omega)
          obtain ⟨b', off', rfl, _, hcell'⟩ := HY.out.at_ (by omega)
          have hc := hcell q hlt
          have hc' := hcell' q hlt
          have HSX := Lib.hid (take_snoc' y q (by omega))
          have HSZ := Lib.hid (take_snoc' zs q (by omega))
          have HQ := Lib.hid hq
          have HT := Lib.hid ht
          have HM : Hid (y.getD q 0 ≠ zs.getD q 0 → y ≠ zs) := fun h1 h2 => h1 (by rw [h2])
          clear hq ht hcell hcell' lx lz
          generalize y.getD q 0 = c at hc' HSX HM
          generalize zs.getD q 0 = d at hc HSZ HM
          by_cases he : c = d
          · subst he
            go_wp2
            go_roundg (gk - 1)
            case measure => have := HQ.out; omega
            case rel => exact ⟨q + 1, by have := HQ.out; omega, by go_num, by rw [HSX.out, HSZ.out, HT.out], rfl⟩
          · have hn' : (c != d) = true := by simpa [bne_iff_ne] using he
            go_wp2
            go_roundg 0
            case measure => omega
            case rel => exact ⟨2, by omega, by go_num, fun _ => Q1.out (by omega), fun _ => HM.out he, rfl⟩
        · have e : y = zs := by
            have e1 : q = n := by omega
            rw [e1, List.take_of_length_le (by omega), List.take_of_length_le (by omega)] at ht
            exact ht
          have HW : Hid (whichI zs x y = 1) := by
            show whichI zs x y = 1
            unfold whichI
            rw [if_neg (Q1.out (by omega)), if_pos e]
          clear ht e lx lz hq
          go_wp2
          rw [Exit.noGoto_ret]
          go_ret
          exact ⟨by rw [HW.out]; rfl, rfl⟩
    | j + 2, hg =>
      obtain ⟨rfl, rfl⟩ : j = 0 ∧ gk = 0 := by omega
      have HW : Hid (whichI zs x y = -1) := by
        show whichI zs x y = -1
        unfold whichI
        rw [if_neg (Q1.out (by omega)), if_neg (Q2.out (by omega))]
      clear hg
      simp only [Nat.zero_add, Int.cast_ofNat_Int]
      go_wp2
      rw [Exit.noGoto_ret]
      go_ret
      exact ⟨by rw [HW.out]; rfl, rfl⟩
/-- What Open tells: the code, and the body in memory of its own. -/
def OpenPost (w : World) (id : Int) (zs : List Int) (e : Ending) (w' : World) : Prop :=
  ∃ A c, e = .returned (.tuple #[.slice A (openB id zs).length c, .int .i64 (openC id zs)]) ∧ (openC id zs = 0 → ∃ g, A = some ⟨g, 8, none⟩ ∧ w.heap.size ≤ g ∧ NBlk w' g 5 .u8 (sealI id (openB id zs))) ∧ (openC id zs ≠ 0 → A = none ∧ c = 0) ∧ Grow w w'
set_option maxHeartbeats 1000000 in
theorem open_good (id : Int) (A : Option Addr) (cap B : Nat) (zs : List Int) (w : World) (h0 : 0 ≤ id) (h1 : id < 48) (hz : Bytes zs) (h : Sl w B .u8 A 24 zs) (hB : B ≤ w.heap.size) (hcap : 24 ≤ cap) (hcap' : cap ≤ maxLen) :
    Calls Tryz.prog 30 #[.int .i64 id, .slice A 24 cap] w (OpenPost w id zs) := by
  unfold maxLen at hcap'
  have HP := Lib.hid (isPage_any id w (by omega) (by omega))
  have hp : isPage id = true := by simp [isPage, h0, h1]
  rw [hp] at HP
  clear hp
  obtain ⟨b, off, rfl, hb, hcell⟩ := h.at_ (by omega)
  have HS := Lib.hid h
  have h8 : Sl w B .u8 (some ⟨b, off + 8, none⟩) 16 (zs.drop 8) := by
    have := h.cut (m := 8) (cap := cap) (by omega) (by omega)
    rw [if_neg (by omega)] at this
    simpa [Addr.add] using this
  have hz8 : Bytes (zs.drop 8) := fun c hc => hz c (List.mem_of_mem_drop hc)
  have H8 := Lib.hid (fun cap => seal_good id (some ⟨b, off + 8, none⟩) cap B (zs.drop 8) w h0 h1 hz8 h8 hB)
  clear hcell h h8
  go_enter Tryz.func30, Tryz.ntmps30
  go_upto_region 4 with (first
    | (go_at_call 81; (with_reducible refine HP.out.mono ?_); rintro e w' ⟨rfl, rfl⟩)
    | (go_at_call 82; (with_reducible refine (H8.out _).mono ?_); rintro e w1 ⟨g, rfl, hg, hblk, hgr⟩; have HBLK := Lib.hid hblk; have HGR := Lib.hid hgr; clear hblk hgr))
  go_wp2_with (go_at_call 84; (with_reducible refine (blank_any _).mono ?_); rintro e w2 ⟨g2, rfl, hg2, hblk2, hgr2⟩; have HBLK2 := Lib.hid hblk2; have HGR2 := Lib.hid hgr2; clear hblk2 hgr2)
  have hgz : g < w1.heap.size := Blk.lt HBLK.out
  have hg2z : g2 < w2.heap.size := Blk.lt HBLK2.out
  have hzw : w.heap.size ≤ w1.heap.size := HGR.out.size
  have hzw2 : w1.heap.size ≤ w2.heap.size := HGR2.out.size
  have HG3 : Hid (Grow w (w2.alloc (.cells #[.slice (some ⟨g2, 0, none⟩) 24 24, .slice (some ⟨g, 0, none⟩) 24 24] 22))) := (HGR.out.trans HGR2.out).alloc _
  have HB3 : Hid (NBlk (w2.alloc (.cells #[.slice (some ⟨g2, 0, none⟩) 24 24, .slice (some ⟨g, 0, none⟩) 24 24] 22)) g 5 .u8 (sealI id (zs.drop 8))) := (Blk.grow HBLK.out HGR2.out).alloc _
  have HZ3 : Hid (NBlk (w2.alloc (.cells #[.slice (some ⟨g2, 0, none⟩) 24 24, .slice (some ⟨g, 0, none⟩) 24 24] 22)) g2 5 .u8 (zeros 24)) := Blk.alloc HBLK2.out _
  have HL3 : Hid (Blk (w2.alloc (.cells #[.slice (some ⟨g2, 0, none⟩) 24 24, .slice (some ⟨g, 0, none⟩) 24 24] 22)) w2.heap.size 22 [.slice (some ⟨g2, 0, none⟩) 24 24, .slice (some ⟨g, 0, none⟩) 24 24]) := Blk.new w2 _ [.slice (some ⟨g2, 0, none⟩) 24 24, .slice (some ⟨g, 0, none⟩) 24 24]
  generalize w2.alloc (.cells #[.slice (some ⟨g2, 0, none⟩) 24 24, .slice (some ⟨g, 0, none⟩) 24 24] 22) = w3 at HG3 HB3 HZ3 HL3 ⊢
  have hw3 : B ≤ w3.heap.size := Nat.le_trans hB HG3.out.size
  have hl : zs.length = 24 := HS.out.len
  have hS3 : Sl w3 w3.heap.size .u8 (some ⟨b, off, none⟩) 24 zs := (Sl.kept HS.out HG3.out hB fun _ _ x => x).more hw3
  have HW := which_any (some ⟨b, off, none⟩) (some ⟨g2, 0, none⟩) (some ⟨g, 0, none⟩) 24 cap 24 24 w2.heap.size w3.heap.size zs (zeros 24) (sealI id (zs.drop 8)) w3 (by unfold maxLen; omega) hS3
    (Sl.of_blk0 HZ3.out (by simp [zeros]) (Blk.lt HZ3.out)) (Sl.of_blk0 HB3.out (by rw [seal_len]; simp; omega) (Blk.lt HB3.out)) (by rw [Blk.cell HL3.out]; rfl) (by rw [Blk.cell HL3.out]; rfl)
  refine HW.mono ?_
  clear HW
  rintro e w' ⟨rfl, rfl⟩
  have hoc := openC_good h0 h1 hl
  have hob : openB id zs = if openC id zs = 0 then zs.drop 8 else [] := rfl
  have hwi : whichI zs (zeros 24) (sealI id (zs.drop 8)) = if zeros 24 = zs then 0 else if sealI id (zs.drop 8) = zs then 1 else -1 := rfl
  have HG := HG3
  have HBX := HB3
  clear hS3 HZ3 HL3 HGR2 HBLK2 HBLK HGR H8 HS HP
  by_cases e1 : zs = zeros 24
  · rw [if_pos e1] at hoc
    rw [if_pos e1.symm] at hwi
    rw [hoc, if_neg (by decide)] at hob
    have HOC := Lib.hid hoc
    have HOB := Lib.hid hob
    rw [hwi]
    clear hoc hob hwi hl e1
    go_wp2
    go_ret2
    exact ⟨none, 0, by rw [HOC.out, HOB.out]; rfl, fun h => absurd h (by rw [HOC.out]; decide), fun _ => ⟨rfl, rfl⟩, HG.out⟩
  · by_cases e2 : zs = sealI id (zs.drop 8)
    · rw [if_neg e1, if_pos e2] at hoc
      rw [if_neg (fun h => e1 h.symm), if_pos e2.symm] at hwi
      rw [hoc, if_pos rfl] at hob
      have HOC := Lib.hid hoc
      have HOB := Lib.hid hob
      rw [hwi]
      have hl8 : (zs.drop 8).length = 16 := by rw [List.length_drop, hl]
      have HL8 := Lib.hid hl8
      clear hoc hob hwi hl hl8 e1 e2
      go_wp2
      go_ret2
      exact ⟨some ⟨g, 8, none⟩, 16, by rw [HOC.out, HOB.out, HL8.out]; rfl, fun _ => ⟨g, rfl, hg, by rw [HOB.out]; exact HBX.out⟩, fun h => absurd HOC.out h, HG.out⟩
    · rw [if_neg e1, if_neg e2] at hoc
      rw [if_neg (fun h => e1 h.symm), if_neg (fun h => e2 h.symm)] at hwi
      rw [hoc, if_neg (by decide)] at hob
      have HOC := Lib.hid hoc
      have HOB := Lib.hid hob
      rw [hwi]
      clear hoc hob hwi hl e1 e2
      go_wp2
      go_ret2
      exact ⟨none, 0, by rw [HOC.out, HOB.out]; rfl, fun h => absurd h (by rw [HOC.out]; decide), fun _ => ⟨rfl, rfl⟩, HG.out⟩
theorem open_is {id : Int} {args : Array Value} {zs body : List Int} {w : World} {n : Nat} (h : Calls Tryz.prog 30 args w (OpenPost w id zs)) (hc : openC id zs = 0) (hb : openB id zs = body) (hn : body.length = n) :
    Calls Tryz.prog 30 args w fun e w' => ∃ g c, e = .returned (.tuple #[.slice (some ⟨g, 8, none⟩) n c, .int .i64 0]) ∧ w.heap.size ≤ g ∧ NBlk w' g 5 .u8 (sealI id body) ∧ Grow w w' :=
  h.mono fun e w' ⟨A, c, he, h1, _, h3⟩ => by
    subst hb hn
    obtain ⟨g, rfl, hg, hblk⟩ := h1 hc
    rw [hc] at he
    exact ⟨g, c, he, hg, hblk, h3⟩
theorem open_not {id k : Int} {args : Array Value} {zs : List Int} {w : World} (h : Calls Tryz.prog 30 args w (OpenPost w id zs)) (hc : openC id zs = k) (hk : k ≠ 0) :
    Calls Tryz.prog 30 args w fun e w' => e = .returned (.tuple #[.slice none 0 0, .int .i64 k]) ∧ Grow w w' :=
  h.mono fun e w' ⟨A, c, he, _, h2, h3⟩ => by
    subst hc
    obtain ⟨rfl, rfl⟩ := h2 hk
    have hb : openB id zs = [] := by unfold openB; rw [if_neg hk]
    rw [hb] at he
    exact ⟨he, h3⟩
end Go.Proofs.YtbnkpnllgoghnaaGreat.PageC

namespace Go.Proofs.YtbnkpnllgoghnaaGreat.Trees
open Go Go.Proofs.YtbnkpnllgoghnaaGreat.Stages
/-- The order in which a region is walked: what looks first (e: it need not bear what late operations do), then what acts. -/
inductive Tr
  | last (e : Bool) (q : List Nat)
  | look (e : Bool) (q : List Nat) (t : Tr)
  | one (e : Bool) (q : List Nat) (c : Nat) (t : Tr)
  | two (e : Bool) (q : List Nat) (c1 : Nat) (t1 : Tr) (c2 : Nat) (t2 : Tr)
section
variable {P : Program} {ops : Array Oper} {R R' : World → World → Prop} {late : List Nat}
/-- What an operation may do. -/
def Lr (late : List Nat) (R R' : World → World → Prop) (c : Nat) : World → World → Prop := if late.contains c then R' else R
/-- What an operation that looks must bear. -/
def Er (e : Bool) (R R' : World → World → Prop) : World → World → Prop := if e then R else R'
def wpAnyL (P : Program) (ops : Array Oper) (L : Nat → World → World → Prop) (Qn : Act → World → Prop) : Nat → Array Bool → Act → World → Prop
  | 0, listed, a, w => Region.ready .any ops listed = [] ∧ Qn a w
  | fuel + 1, listed, a, w =>
    (Region.ready .any ops listed = [] → Qn a w) ∧
    ∀ i ∈ Region.ready .any ops listed, wpOp P ops (Norm fun _ _ => False) i (fun a' w' => L i w w' ∧ wpAnyL P ops L Qn fuel (listed.setIfInBounds i true) a' w') a w
theorem wpAny_of_L {L : Nat → World → World → Prop} {Q : Exit → Act → World → Prop} : ∀ (fuel : Nat) (listed : Array Bool) (a : Act) (w : World), wpAnyL P ops L (Q .normal) fuel listed a w → wpAny P .any ops Q fuel listed a w
  | 0, _, _, _, h => h
  | fuel + 1, _, _, _, h => ⟨h.1, fun i hi => wpOp_turn (fun _ _ _ hh => hh.elim) (fun ⟨_, _, hh⟩ => hh.elim) (wpOp_mono (fun a' w' hh => wpAny_of_L fuel _ a' w' hh.2) (h.2 i hi))⟩
theorem wpAnyL_first {L : Nat → World → World → Prop} {Ri : World → World → Prop} {Qn : Act → World → Prop} {i : Nat} {oi : Oper} {v : Value} (hr : ∀ a, Ri a a) (hl : ∀ j a, L j a a) (ht : ∀ a b c, Ri a b → Ri b c → Ri a c) (hi : ops[i]? = some oi) (hsel : ∀ (j : Nat) (o : Oper) cs b, ops[j]? = some o → o.op ≠ .select cs b) :
    ∀ (fuel : Nat) (listed : Array Bool) (a : Act) (w : World),
      (∀ j oj, ops[j]? = some oj → j ≠ i → listed.getD j true = false → (∀ e ∈ oj.after, Region.binds .any e = true → e.on ≠ i) → oi.apart ops oj = true ∧ ∀ u u', L j u u' → Ri u u') →
      i ∈ Region.ready .any ops listed → SureIn P ops Ri oi v a w →
      wpAnyL P ops L Qn fuel (listed.setIfInBounds i true) (a.put oi.dst v) w → wpAnyL P ops L Qn (fuel + 1) listed a w := by
  intro fuel
  induction fuel with
  | zero =>
    intro listed a w _ hrd hy H
    refine ⟨fun h => (by rw [h] at hrd; cases hrd), fun j hj => ?_⟩
    by_cases hji : j = i
    · subst hji; exact hy.wpOp hr hi ⟨hl j w, H⟩
    · have := ready_mono hj hji
      rw [H.1] at this
      cases this
  | succ fuel ih =>
    intro listed a w hfree hrd hy H
    refine ⟨fun h => (by rw [h] at hrd; cases hrd), fun j hj => ?_⟩
    by_cases hji : j = i
    · subst hji; exact hy.wpOp hr hi ⟨hl j w, H⟩
    · have h1 := H.2 j (ready_mono hj hji)
      obtain ⟨hjun, oj, hoj, hall⟩ := mem_ready.1 hj
      have hnot : ∀ e ∈ oj.after, Region.binds .any e = true → e.on ≠ i := fun e he hb heq => by
        have h1 := hall e he hb
        have h0 := (mem_ready.1 hrd).1
        rw [heq] at h1
        rcases Nat.lt_or_ge i listed.size with h' | h'
        · simp [h'] at h0 h1; rw [h0] at h1; cases h1
        · simp [Array.getElem?_eq_none h'] at h1
      obtain ⟨hap, hsub⟩ := hfree j oj hoj hji hjun hnot
      have h1' : wpOp P ops (Norm fun _ _ => False) j (fun a' w' => Ri w w' ∧ (L j w w' ∧ wpAnyL P ops L Qn fuel ((listed.setIfInBounds i true).setIfInBounds j true) a' w')) (a.put oi.dst v) w := wpOp_mono (fun _ _ hk => ⟨hsub _ _ hk.1, hk⟩) h1
      have h2 := wpOp_putR (K := fun a' w' => L j w w' ∧ wpAnyL P ops L Qn fuel ((listed.setIfInBounds i true).setIfInBounds j true) a' w') ht hoj hap (fun cs b => hsel i oi cs b hi) (fun cs b => hsel j oj cs b hoj) hy h1'
      have hfree' : ∀ k ok, ops[k]? = some ok → k ≠ i → (listed.setIfInBounds j true).getD k true = false →
          (∀ e ∈ ok.after, Region.binds .any e = true → e.on ≠ i) → oi.apart ops ok = true ∧ ∀ u u', L k u u' → Ri u u' := fun k ok hk hki hun hno => by
        refine hfree k ok hk hki ?_ hno
        by_cases hjk : j = k
        · subst hjk; exact hjun
        · rw [getD_set_ne true hjk] at hun; exact hun
      refine wpOp_mono (fun a' w' h3 => ⟨h3.2.2.1, ih (listed.setIfInBounds j true) a' w' hfree' (ready_mono hrd (Ne.symm hji)) h3.1 ?_⟩) h2
      rw [Array.setIfInBounds_comm _ _ hji]
      exact h3.2.2.2
/-- Every late operation that is still to come waits for these. -/
def earlyB (ops : Array Oper) (late : List Nat) (e : Bool) (q : List Nat) : Bool :=
  !e || q.all fun i => late.all fun j => match ops[j]? with | some o => o.after.any fun x => Region.binds .any x && x.on == i | none => true
def trB (ops : Array Oper) (late : List Nat) : Tr → Array Bool → Bool
  | .last e q, listed => quietB ops q listed && earlyB ops late e q && (Region.ready .any ops (listAll q listed)).isEmpty
  | .look e q t, listed => quietB ops q listed && earlyB ops late e q && trB ops late t (listAll q listed)
  | .one e q c t, listed => quietB ops q listed && earlyB ops late e q && Region.ready .any ops (listAll q listed) == [c] && trB ops late t ((listAll q listed).setIfInBounds c true)
  | .two e q c1 t1 c2 t2, listed => quietB ops q listed && earlyB ops late e q && Region.ready .any ops (listAll q listed) == [c1, c2] && trB ops late t1 ((listAll q listed).setIfInBounds c1 true) && trB ops late t2 ((listAll q listed).setIfInBounds c2 true)
def trFuel : Tr → Nat
  | .last _ q => q.length
  | .look _ q t => q.length + trFuel t
  | .one _ q _ t => q.length + (trFuel t + 1)
  | .two _ q _ t1 _ _ => q.length + (trFuel t1 + 1)
def trEven : Tr → Bool
  | .last _ _ => true
  | .look _ _ t => trEven t
  | .one _ _ _ t => trEven t
  | .two _ _ _ t1 _ t2 => trEven t1 && trEven t2 && trFuel t1 == trFuel t2
/-- What is to be shown. -/
def wpTr (P : Program) (ops : Array Oper) (late : List Nat) (R R' : World → World → Prop) (Qn : Act → World → Prop) : Tr → Act → World → Prop
  | .last e q, a, w => wpQuiet P ops (Cls (Er e R R') w) (fun a' => Qn a' w) (sel ops q) a
  | .look e q t, a, w => wpQuiet P ops (Cls (Er e R R') w) (fun a' => wpTr P ops late R R' Qn t a' w) (sel ops q) a
  | .one e q c t, a, w => wpQuiet P ops (Cls (Er e R R') w) (fun a' => wpList P ops (Norm fun a'' w'' => Lr late R R' c w w'' ∧ wpTr P ops late R R' Qn t a'' w'') (sel ops [c]) a' w) (sel ops q) a
  | .two e q c1 t1 c2 t2, a, w => wpQuiet P ops (Cls (Er e R R') w) (fun a' => wpList P ops (Norm fun a'' w'' => Lr late R R' c1 w w'' ∧ wpTr P ops late R R' Qn t1 a'' w'') (sel ops [c1]) a' w ∧ wpList P ops (Norm fun a'' w'' => Lr late R R' c2 w w'' ∧ wpTr P ops late R R' Qn t2 a'' w'') (sel ops [c2]) a' w) (sel ops q) a
theorem quiet_walkL {L : Nat → World → World → Prop} {Ri : World → World → Prop} {Qn : Act → World → Prop} (hr : ∀ a, Ri a a) (hl : ∀ j a, L j a a) (ht : ∀ a b c, Ri a b → Ri b c → Ri a c) (hs : Region.noSelect ops = true) (n : Nat) (w : World) :
    ∀ (l : List Nat) (listed : Array Bool) (a : Act), quietB ops l listed = true →
    (∀ i ∈ l, ∀ j oj, ops[j]? = some oj → (∀ e ∈ oj.after, Region.binds .any e = true → e.on ≠ i) → ∀ u u', L j u u' → Ri u u') →
    wpQuiet P ops (Cls Ri w) (fun a' => wpAnyL P ops L Qn n (listAll l listed) a' w) (sel ops l) a → wpAnyL P ops L Qn (l.length + n) listed a w
  | [], listed, a, _, _, h => by simpa [sel, wpQuiet, listAll] using h
  | k :: l, listed, a, hB, hsub, h => by
    simp only [quietB, Bool.and_eq_true] at hB
    obtain ⟨⟨⟨hrd, hf⟩, hp⟩, hB'⟩ := hB
    cases ho : ops[k]? with
    | none => rw [ho] at hp; cases hp
    | some o =>
      rw [ho] at hp
      have hp' : plain o.op = true := hp
      have hsel : sel ops (k :: l) = o :: sel ops l := sel_cons ho _
      rw [hsel] at h
      have e : (k :: l).length + n = (l.length + n) + 1 := by simp only [List.length_cons]; omega
      rw [e]
      have key : ∃ v, SureIn P ops Ri o v a w ∧ wpQuiet P ops (Cls Ri w) (fun a' => wpAnyL P ops L Qn n (listAll l (listed.setIfInBounds k true)) a' w) (sel ops l) (a.put o.dst v) := by
        unfold wpQuiet at h
        by_cases hw : Region.wanted o (yielded ops a.tmps) = true
        · rw [if_pos hw] at h
          obtain ⟨v, h1, h2⟩ := h
          refine ⟨v, .inl ⟨hw, fun w' hR => ?_⟩, h2⟩
          have h3 := h1 w' (cls_of hR)
          unfold Oper.quietAt at h3
          unfold SureAt
          cases hrun : (execOp a.eval o).run P w' with
          | ok x w1 =>
            obtain ⟨u, rfl⟩ := plain_run hp' hrun
            rw [hrun] at h3
            simp only [Oper.quietUpon] at h3
            rw [h3.1, h3.2]
          | halt x w1 => rw [hrun] at h3; simp only [Oper.quietUpon] at h3
        · rw [if_neg hw] at h
          exact ⟨undef, .inr ⟨by simpa using hw, rfl⟩, h⟩
      obtain ⟨v, hy, hK⟩ := key
      exact wpAnyL_first hr hl ht ho (Region.noSelect_spec hs) (l.length + n) listed a w (fun j oj hoj hji hun hno => ⟨Region.free_spec ho hf j oj hoj hji hun hno, hsub k (List.mem_cons_self ..) j oj hoj hno⟩) (by simpa using hrd) hy
        (quiet_walkL hr hl ht hs n w l _ _ hB' (fun i hi => hsub i (List.mem_cons_of_mem _ hi)) hK)
theorem early_spec {e : Bool} {q : List Nat} (h : earlyB ops late e q = true) (hsub : ∀ a b, R a b → R' a b) : ∀ i ∈ q, ∀ j oj, ops[j]? = some oj → (∀ x ∈ oj.after, Region.binds .any x = true → x.on ≠ i) → ∀ u u', Lr late R R' j u u' → Er e R R' u u' := by
  intro i hi j oj hoj hno u u' hL
  unfold Lr at hL
  unfold Er
  cases e with
  | false =>
    simp only [Bool.false_eq_true, if_false]
    split at hL
    · exact hL
    · exact hsub _ _ hL
  | true =>
    simp only [if_true]
    split at hL
    · rename_i hc
      exfalso
      simp only [earlyB, Bool.not_true, Bool.false_or, List.all_eq_true] at h
      have h1 := h i hi j (by simpa using hc)
      rw [hoj] at h1
      obtain ⟨x, hx, hb⟩ := Array.any_eq_true'.1 h1
      simp only [Bool.and_eq_true, beq_iff_eq] at hb
      exact hno x hx hb.1 hb.2
    · exact hL
theorem tr_walk {Qn : Act → World → Prop} (hr : ∀ a, R a a) (ht : ∀ a b c, R a b → R b c → R a c) (hr' : ∀ a, R' a a) (ht' : ∀ a b c, R' a b → R' b c → R' a c) (hsub : ∀ a b, R a b → R' a b) (hs : Region.noSelect ops = true) :
    ∀ (t : Tr) (listed : Array Bool) (a : Act) (w : World), trB ops late t listed = true → trEven t = true → wpTr P ops late R R' Qn t a w → wpAnyL P ops (Lr late R R') Qn (trFuel t) listed a w := by
  have er : ∀ e a, Er e R R' a a := fun e a => by cases e <;> simp [Er, hr, hr']
  have et : ∀ e a b c, Er e R R' a b → Er e R R' b c → Er e R R' a c := fun e a b c => by
    cases e
    · exact ht' a b c
    · exact ht a b c
  have hl : ∀ j a, Lr late R R' j a a := fun j a => by unfold Lr; split <;> first | exact hr' a | exact hr a
  -- one operation that acts, at the list of them alone
  have act : ∀ (i : Nat) (rs : List Nat) (listed : Array Bool) (a : Act) (w : World) (t : Tr), i ∈ Region.ready .any ops listed →
      (∀ (a : Act) (w : World), wpTr P ops late R R' Qn t a w → wpAnyL P ops (Lr late R R') Qn (trFuel t) (listed.setIfInBounds i true) a w) →
      wpList P ops (Norm fun a'' w'' => Lr late R R' i w w'' ∧ wpTr P ops late R R' Qn t a'' w'') (sel ops [i]) a w →
      wpOp P ops (Norm fun _ _ => False) i (fun a' w' => Lr late R R' i w w' ∧ wpAnyL P ops (Lr late R R') Qn (trFuel t) (listed.setIfInBounds i true) a' w') a w := by
    intro i rs listed a w t hmem hgo ha
    obtain ⟨o, ho, _⟩ := (mem_ready.1 hmem).2
    have hsel : sel ops [i] = [o] := sel_cons ho _
    rw [hsel] at ha
    unfold wpOp
    simp only [ho]
    unfold wpList at ha
    split
    · rename_i hw
      rw [if_pos hw] at ha
      rcases ha with ha | ⟨_, hlo⟩
      · refine .inl ?_
        have h1 := Oper.wp_mono (K' := fun a' w' => Lr late R R' i w w' ∧ wpAnyL P ops (Lr late R R') Qn (trFuel t) (listed.setIfInBounds i true) a' w') (fun a'' w'' (hk : wpList P ops (Norm fun a'' w'' => Lr late R R' i w w'' ∧ wpTr P ops late R R' Qn t a'' w'') [] a'' w'') => ⟨hk.1, hgo a'' w'' hk.2⟩) ha
        exact upon_turn (fun _ _ _ hh => hh.elim) (fun ⟨_, _, hh⟩ => hh.elim) h1
      · exact (norm_lets hlo).elim
    · rename_i hw
      rw [if_neg hw] at ha
      have hk : Lr late R R' i w w ∧ _ := ha
      exact ⟨hk.1, hgo _ _ hk.2⟩
  intro t
  induction t with
  | last e q =>
    intro listed a w hB _ h
    simp only [trB, Bool.and_eq_true] at hB
    have := quiet_walkL (Qn := Qn) (er e) hl (et e) hs 0 w q listed a hB.1.1 (early_spec hB.1.2 hsub) (wpQuiet_mono (fun a' ha' => ⟨by simpa using hB.2, ha'⟩) _ _ h)
    simpa [trFuel] using this
  | look e q t ih =>
    intro listed a w hB hE h
    simp only [trB, Bool.and_eq_true] at hB
    exact quiet_walkL (Qn := Qn) (er e) hl (et e) hs _ w q listed a hB.1.1 (early_spec hB.1.2 hsub) (wpQuiet_mono (fun a' ha' => ih _ a' w hB.2 hE ha') _ _ h)
  | one e q c t ih =>
    intro listed a w hB hE h
    simp only [trB, Bool.and_eq_true, beq_iff_eq] at hB
    obtain ⟨⟨⟨hq, he⟩, hc⟩, hrest⟩ := hB
    refine quiet_walkL (Qn := Qn) (er e) hl (et e) hs _ w q listed a hq (early_spec he hsub) (wpQuiet_mono (fun a' ha' => ?_) _ _ h)
    refine ⟨(fun h0 => by rw [hc] at h0; cases h0), fun i hi => ?_⟩
    have hi0 := hi
    rw [hc] at hi
    have hic : i = c := by simpa using hi
    subst hic
    exact act i [] _ a' w t hi0 (fun a'' w'' hk => ih _ a'' w'' hrest hE hk) ha'
  | two e q c1 t1 c2 t2 ih1 ih2 =>
    intro listed a w hB hE h
    simp only [trB, Bool.and_eq_true, beq_iff_eq] at hB
    obtain ⟨⟨⟨⟨hq, he⟩, hc⟩, hrest1⟩, hrest2⟩ := hB
    simp only [trEven, Bool.and_eq_true, beq_iff_eq] at hE
    obtain ⟨⟨hE1, hE2⟩, hEE⟩ := hE
    refine quiet_walkL (Qn := Qn) (er e) hl (et e) hs _ w q listed a hq (early_spec he hsub) (wpQuiet_mono (fun a' ha' => ?_) _ _ h)
    refine ⟨(fun h0 => by rw [hc] at h0; cases h0), fun i hi => ?_⟩
    have hi0 := hi
    rw [hc] at hi
    have hic : i = c1 ∨ i = c2 := by simpa using hi
    rcases hic with rfl | rfl
    · exact act i [] _ a' w t1 hi0 (fun a'' w'' hk => ih1 _ a'' w'' hrest1 hE1 hk) ha'.1
    · rw [hEE]
      exact act i [] _ a' w t2 hi0 (fun a'' w'' hk => ih2 _ a'' w'' hrest2 hE2 hk) ha'.2
end
/-- **The walk along a tree of orders serves every order.** -/
theorem wp_region_tree {P : Program} {id : Nat} {Q : Exit → Act → World → Prop} {a : Act} {w : World} {l : List Oper} (R R' : World → World → Prop) (hr : ∀ a, R a a) (ht : ∀ a b c, R a b → R b c → R a c) (hr' : ∀ a, R' a a) (ht' : ∀ a b c, R' a b → R' b c → R' a c) (hsub : ∀ a b, R a b → R' a b)
    (late : List Nat) (t : Tr) (hm : P.follows .mixedOrders = true) (hB : (Region.noSelect l.toArray && trB l.toArray late t (Array.replicate l.length false) && trEven t && trFuel t == l.length) = true)
    (h : wpTr P l.toArray late R R' (fun a' w' => Q .normal a' w') t a w.drew) : (Code.region id l.toArray true).wp P Q a w := by
  simp only [Bool.and_eq_true, beq_iff_eq] at hB
  obtain ⟨⟨⟨hs, hb⟩, he⟩, hf⟩ := hB
  refine wp_region_any hm (wpAny_of_L (L := Lr late R R') _ _ _ _ ?_)
  have := tr_walk (P := P) (Qn := fun a' w' => Q .normal a' w') hr ht hr' ht' hsub hs t _ a _ hb he h
  rw [hf] at this
  simpa using this
section
variable {P : Program} {ops : Array Oper} {R R' : World → World → Prop} {late : List Nat} {Qn : Act → World → Prop} {a : Act} {w : World}
theorem Lr_early {c : Nat} {w w' : World} (hc : late.contains c = false) (h : R w w') : Lr late R R' c w w' := by unfold Lr; rw [hc]; exact h
theorem Lr_late {c : Nat} {w w' : World} (hc : late.contains c = true) (h : R' w w') : Lr late R R' c w w' := by unfold Lr; rw [hc]; exact h
theorem tr_last {e : Bool} {q : List Nat} (h : ∀ K : Act → Prop, (∀ a', Qn a' w → K a') → wpQuiet P ops (fun w' => ∃ p : Up (Er e R R') w, w' = p.u) K (sel ops q) a) : wpTr P ops late R R' Qn (.last e q) a w := h _ fun _ h => h
theorem tr_one {e : Bool} {q : List Nat} {c : Nat} {t : Tr}
    (h : ∀ K : Act → World → Prop, (∀ a'' w'', Lr late R R' c w w'' → wpTr P ops late R R' Qn t a'' w'' → K a'' w'') → wpQuiet P ops (fun w' => ∃ p : Up (Er e R R') w, w' = p.u) (fun a' => wpList P ops (Norm K) (sel ops [c]) a' w) (sel ops q) a) : wpTr P ops late R R' Qn (.one e q c t) a w :=
  h _ fun _ _ h1 h2 => ⟨h1, h2⟩
theorem tr_two {e : Bool} {q : List Nat} {c1 c2 : Nat} {t1 t2 : Tr}
    (h : ∀ K1 : Act → World → Prop, (∀ a'' w'', Lr late R R' c1 w w'' → wpTr P ops late R R' Qn t1 a'' w'' → K1 a'' w'') → ∀ K2 : Act → World → Prop, (∀ a'' w'', Lr late R R' c2 w w'' → wpTr P ops late R R' Qn t2 a'' w'' → K2 a'' w'') →
      wpQuiet P ops (fun w' => ∃ p : Up (Er e R R') w, w' = p.u) (fun a' => wpList P ops (Norm K1) (sel ops [c1]) a' w ∧ wpList P ops (Norm K2) (sel ops [c2]) a' w) (sel ops q) a) : wpTr P ops late R R' Qn (.two e q c1 t1 c2 t2) a w :=
  h _ (fun _ _ h1 h2 => ⟨h1, h2⟩) _ (fun _ _ h1 h2 => ⟨h1, h2⟩)
theorem tr_oneE {q : List Nat} {c : Nat} {t : Tr}
    (h : ∀ K : Act → World → Prop, (∀ a'' w'', Lr late R R' c w w'' → wpTr P ops late R R' Qn t a'' w'' → K a'' w'') → wpQuiet P ops (fun w' => ∃ p : Up R w, w' = p.u) (fun a' => wpList P ops (Norm K) (sel ops [c]) a' w) (sel ops q) a) : wpTr P ops late R R' Qn (.one true q c t) a w :=
  tr_one (e := true) h
theorem tr_oneL {q : List Nat} {c : Nat} {t : Tr}
    (h : ∀ K : Act → World → Prop, (∀ a'' w'', Lr late R R' c w w'' → wpTr P ops late R R' Qn t a'' w'' → K a'' w'') → wpQuiet P ops (fun w' => ∃ p : Up R' w, w' = p.u) (fun a' => wpList P ops (Norm K) (sel ops [c]) a' w) (sel ops q) a) : wpTr P ops late R R' Qn (.one false q c t) a w :=
  tr_one (e := false) h
theorem tr_lastL {q : List Nat} (h : ∀ K : Act → Prop, (∀ a', Qn a' w → K a') → wpQuiet P ops (fun w' => ∃ p : Up R' w, w' = p.u) K (sel ops q) a) : wpTr P ops late R R' Qn (.last false q) a w := tr_last (e := false) h
theorem tr_lookE {q : List Nat} {t : Tr} (h : ∀ K : Act → Prop, (∀ a', wpTr P ops late R R' Qn t a' w → K a') → wpQuiet P ops (fun w' => ∃ p : Up R w, w' = p.u) K (sel ops q) a) : wpTr P ops late R R' Qn (.look true q t) a w := h _ fun _ h => h
theorem tr_lookL {q : List Nat} {t : Tr} (h : ∀ K : Act → Prop, (∀ a', wpTr P ops late R R' Qn t a' w → K a') → wpQuiet P ops (fun w' => ∃ p : Up R' w, w' = p.u) K (sel ops q) a) : wpTr P ops late R R' Qn (.look false q t) a w := h _ fun _ h => h
theorem tr_twoE {q : List Nat} {c1 c2 : Nat} {t1 t2 : Tr}
    (h : ∀ K1 : Act → World → Prop, (∀ a'' w'', Lr late R R' c1 w w'' → wpTr P ops late R R' Qn t1 a'' w'' → K1 a'' w'') → ∀ K2 : Act → World → Prop, (∀ a'' w'', Lr late R R' c2 w w'' → wpTr P ops late R R' Qn t2 a'' w'' → K2 a'' w'') →
      wpQuiet P ops (fun w' => ∃ p : Up R w, w' = p.u) (fun a' => wpList P ops (Norm K1) (sel ops [c1]) a' w ∧ wpList P ops (Norm K2) (sel ops [c2]) a' w) (sel ops q) a) : wpTr P ops late R R' Qn (.two true q c1 t1 c2 t2) a w :=
  tr_two (e := true) h
end
end Go.Proofs.YtbnkpnllgoghnaaGreat.Trees

namespace Go.Proofs.YtbnkpnllgoghnaaGreat.RefN
open Go.ChangeShapes Go.WideShapes Go.ChangeAt Go.RowKit
open Go.Proofs.YtbnkpnllgoghnaaGreat.SumM Go.Proofs.YtbnkpnllgoghnaaGreat.Mem Go.Proofs.YtbnkpnllgoghnaaGreat.Blk Go.Proofs.YtbnkpnllgoghnaaGreat.PageM Go.Proofs.YtbnkpnllgoghnaaGreat.Str Go.Proofs.YtbnkpnllgoghnaaGreat.Dev Go.Proofs.YtbnkpnllgoghnaaGreat.LibC Go.Proofs.YtbnkpnllgoghnaaGreat.DevC Go.Proofs.YtbnkpnllgoghnaaGreat.RefD Go.Proofs.YtbnkpnllgoghnaaGreat.Stages Go.Proofs.YtbnkpnllgoghnaaGreat.Trees
theorem infoS : (Tryz.prog.info? 9).map (fun i => (i.zero, i.size, i.bytes)) = some (some (.string ⟨#[]⟩), 1, 16) := by kernel_rfl
theorem infoB : (Tryz.prog.info? 4).map (fun i => (i.zero, i.size, i.bytes)) = some (some (.bool false), 1, 1) := by kernel_rfl
def z0 : Value := strV (zeros 24)
/-- Three rows of the call's own, no two in one block. -/
structure Tri (u : World) (B : Nat) (xA xT xV : Value) (nA nT nV : Nat) : Prop where
  a : u.ownsRow B 9 1 xA nA (List.replicate nA z0)
  t : u.ownsRow B 9 1 xT nT (List.replicate nT z0)
  v : u.ownsRow B 4 1 xV nV (List.replicate nV (.bool false))
  at_ : ∀ k, xA.ownBlock = some k → xT.ownBlock ≠ some k
  av : ∀ k, xA.ownBlock = some k → xV.ownBlock ≠ some k
  tv : ∀ k, xT.ownBlock = some k → xV.ownBlock ≠ some k
section
variable {u u' : World} {B nA nT nV : Nat} {xA xT xV : Value}
theorem grown_of {F : Nat → Prop} (h : Kept F u u') (hF : ∀ k, ¬ F k) : u.grownBy u' none := ⟨h.os, h.tape, h.output, h.size, fun k hk _ => h.block k hk (hF k)⟩
theorem Tri.grow (h : Tri u B xA xT xV nA nT nV) (hg : Grow u u') : Tri u' B xA xT xV nA nT nV :=
  ⟨h.a.kept (grown_of hg fun _ x => x) (by cases xA.ownBlock <;> simp), h.t.kept (grown_of hg fun _ x => x) (by cases xT.ownBlock <;> simp), h.v.kept (grown_of hg fun _ x => x) (by cases xV.ownBlock <;> simp), h.at_, h.av, h.tv⟩
/-- Blocks below the call's own are as they were behind a store into one of them that is no row. -/
theorem Tri.set {m i : Nat} {x : Value} (h : Tri u B xA xT xV nA nT nV) (hm : m < B) : Tri (u.setCell ⟨m, i, none⟩ x) B xA xT xV nA nT nV := by
  have hg : u.grownBy (u.setCell ⟨m, i, none⟩ x) (some m) := ⟨rfl, rfl, rfl, by simp [World.setCell], fun k _ hk => Below.heap_setCell _ _ _ _ (fun e => hk (by rw [e]))⟩
  have ap : ∀ {e : TypeId} {y : Value} {n : Nat} {xs : List Value}, u.ownsRow B e 1 y n xs → y.ownBlock = none ∨ y.ownBlock ≠ some m := fun {e y n xs} hy => by
    cases hb : y.ownBlock with
    | none => exact .inl rfl
    | some k => exact .inr fun e => by have := (hy.lt k hb).1; injection e with e; omega
  exact ⟨h.a.kept hg (ap h.a), h.t.kept hg (ap h.t), h.v.kept hg (ap h.v), h.at_, h.av, h.tv⟩
end
end Go.Proofs.YtbnkpnllgoghnaaGreat.RefN

namespace Go.Proofs.YtbnkpnllgoghnaaGreat.Ops
open Go.ChangeShapes Go.WideShapes Go.ChangeAt Go.RowKit Go.Deep
open Go.Proofs.YtbnkpnllgoghnaaGreat.SumM Go.Proofs.YtbnkpnllgoghnaaGreat.Mem Go.Proofs.YtbnkpnllgoghnaaGreat.Blk
/-- A step: its numbers, its byte, its bytes. -/
structure OpV where
  k : Int
  p : Int
  n : Int
  c : Int
  A : Option Addr
  len : Nat
  cap : Nat
  zs : List Int
section
variable {H : Type} {enc : TypeId × Value → H} {w : World} {base : Nat} {spare : Nat → Bool} {held : Bool}
end
end Go.Proofs.YtbnkpnllgoghnaaGreat.Ops

namespace Go.Proofs.YtbnkpnllgoghnaaGreat.Plays
open Go.ChangeShapes Go.WideShapes Go.ChangeAt Go.RowKit
open Go.Proofs.YtbnkpnllgoghnaaGreat.SumM Go.Proofs.YtbnkpnllgoghnaaGreat.Mem Go.Proofs.YtbnkpnllgoghnaaGreat.Blk Go.Proofs.YtbnkpnllgoghnaaGreat.PageM Go.Proofs.YtbnkpnllgoghnaaGreat.Str Go.Proofs.YtbnkpnllgoghnaaGreat.Dev Go.Proofs.YtbnkpnllgoghnaaGreat.LibC Go.Proofs.YtbnkpnllgoghnaaGreat.DevC Go.Proofs.YtbnkpnllgoghnaaGreat.DevM Go.Proofs.YtbnkpnllgoghnaaGreat.DevY Go.Proofs.YtbnkpnllgoghnaaGreat.DevK Go.Proofs.YtbnkpnllgoghnaaGreat.DevX Go.Proofs.YtbnkpnllgoghnaaGreat.DevN Go.Proofs.YtbnkpnllgoghnaaGreat.Told3 Go.Proofs.YtbnkpnllgoghnaaGreat.DevS Go.Proofs.YtbnkpnllgoghnaaGreat.RefD Go.Proofs.YtbnkpnllgoghnaaGreat.RefN Go.Proofs.YtbnkpnllgoghnaaGreat.Stages
/-! ### Each call of the device, whatever is asked -/
section
variable {w : World} {d D W : Nat} {G : Nat → Prop} {S : Dv}
theorem dwrite_any (h : DevAt w d D W G S) (p : Int) (A : Option Addr) (n cap B : Nat) (zs : List Int) (hlo : -9223372036854775808 ≤ p) (hhi : p < 9223372036854775808) (hm : n ≤ maxLen) (hs : ∀ w', Kept (Own d D W) w w' → Sl w' B .u8 A n zs) (hz : Bytes zs) (low : ∀ x, G x → x < w.heap.size)
    (hn : (S.n : Int) < 9223372036854775807) (hb : (S.bad : Int) < 9223372036854775807) :
    Calls Tryz.prog 155 #[.pointer (some ⟨d, 0, none⟩), .int .i64 p, .slice A n cap] w (DevPost d D W G w (.int .i64 (writeC S p n)) (writeS S p zs)) := by
  have hl := (hs w (Kept.refl _ _)).len
  by_cases hc : writeC S p n = 0
  · have hh : hasI S p = true ∧ n = 24 := by
      unfold writeC at hc
      cases hh : hasI S p with
      | false => rw [hh, Bool.false_and, if_neg (by decide)] at hc; exact absurd hc (by decide)
      | true =>
        rw [hh] at hc
        by_cases e : n = 24
        · exact ⟨rfl, e⟩
        · rw [show (n == 24) = false by simpa using e, Bool.and_false, if_neg (by decide)] at hc; exact absurd hc (by decide)
    obtain ⟨hh, rfl⟩ := hh
    have ha : accC S = 0 := by unfold writeC at hc; rw [hh] at hc; exact hc
    have hp0 : 0 ≤ p := by unfold hasI at hh; simp at hh; omega
    obtain ⟨k, rfl⟩ := Int.eq_ofNat_of_zero_le hp0
    have hk := hasI_nat hh
    have hws : writeS S (k : Int) zs = putS (accS S) k zs := by
      unfold writeS; rw [hh, hl]
      show (if accC S = 0 then putS (accS S) k zs else accS S) = _
      rw [if_pos ha]
    rw [hc, hws]
    exact write_good h k hk A cap B zs hs hz low hn hb ha
  · have hws : writeS S p zs = badS S p n := by
      unfold writeS badS
      rw [hl]
      unfold writeC at hc
      split
      · rename_i hx
        rw [hx] at hc
        have hc' : accC S ≠ 0 := hc
        rw [if_neg hc']
      · rfl
    rw [hws]
    exact write_bad h p A n cap hlo hhi hm hn hb hc
theorem dsync_any (h : DevAt w d D W G S) (hn : (S.n : Int) < 9223372036854775807) (hb : (S.bad : Int) < 9223372036854775807) :
    Calls Tryz.prog 104 #[.pointer (some ⟨d, 0, none⟩)] w (DevPost d D W G w (.int .i64 (accC S)) (syncS S)) := by
  by_cases hc : accC S = 0
  · have hs : syncS S = flushS (accS S) := by unfold syncS; rw [if_pos hc]
    rw [hs]
    have := sync_good h hn hb hc
    rw [hc]
    exact this
  · have hs : syncS S = accS S := by unfold syncS; rw [if_neg hc]
    rw [hs]
    exact sync_bad h hn hb hc
end
/-! ### Both, side by side -/
/-- The device at one state, the document's at another (between the two calls of a step). -/
structure Two (w1 : World) (d D W : Nat) (G : Nat → Prop) (r : Rf) (Sd Sr : Dv) (w : World) : Prop where
  hd : DevAt w d D W G Sd
  hr : RefAt w r Sr
  hk : Kept (fun k => Own d D W k ∨ POwn r k) w1 w
section
variable {w1 w w' : World} {d D W : Nat} {G : Nat → Prop} {r : Rf} {Sd Sr S' : Dv}
theorem Two.grow (h : Two w1 d D W G r Sd Sr w) (hg : Grow w w') : Two w1 d D W G r Sd Sr w' := ⟨h.hd.grow hg, h.hr.grow hg, h.hk.then hg (fun _ _ x => x.elim)⟩
theorem Two.dev (h : Two w1 d D W G r Sd Sr w) (hd : DevAt w' d D W G S') (hk : Kept (Own d D W) w w') (ap : ∀ k, POwn r k → ¬ Own d D W k) : Two w1 d D W G r S' Sr w' := ⟨hd, h.hr.kept hk ap, h.hk.then hk (fun _ _ x => .inl x)⟩
end
/-- The bounds of a state behind so many steps. -/
def Bnd (S : Dv) (i : Nat) : Prop := S.n ≤ i ∧ S.bad ≤ 1000000
theorem Bnd.acc {S : Dv} {i : Nat} (h : Bnd S i) : Bnd (accS S) (i + 1) := by
  obtain ⟨h1, h2⟩ := h
  unfold accS
  split
  · exact ⟨by omega, h2⟩
  · exact ⟨by show S.n + 1 ≤ i + 1; omega, by show S.bad - 1 ≤ 1000000; omega⟩
theorem Bnd.succ {S : Dv} {i : Nat} (h : Bnd S i) : Bnd S (i + 1) := ⟨by have := h.1; omega, h.2⟩
theorem Bnd.read {S : Dv} {i : Nat} (h : Bnd S i) (p : Int) : Bnd (readS S p) (i + 1) := by
  unfold readS; split
  · exact h.acc
  · exact h.succ
theorem Bnd.write {S : Dv} {i : Nat} (h : Bnd S i) (p : Int) (zs : List Int) : Bnd (writeS S p zs) (i + 1) := by
  unfold writeS; split
  · split
    · exact h.acc
    · exact h.acc
  · exact h.succ
theorem Bnd.sync {S : Dv} {i : Nat} (h : Bnd S i) : Bnd (syncS S) (i + 1) := by
  unfold syncS; split
  · exact h.acc
  · exact h.acc
theorem Bnd.fail {S : Dv} {i : Nat} (h : Bnd S i) (m : Int) : Bnd (failS S m) (i + 1) := by
  unfold failS; split
  · rename_i hb
    refine ⟨by have := h.1; show S.n ≤ i + 1; omega, ?_⟩
    unfold failB at hb
    simp at hb
    show m.toNat ≤ 1000000
    omega
  · exact h.succ
theorem Bnd.crash {S : Dv} {i : Nat} (h : Bnd S i) (bs : List Int) : Bnd (crashS S bs) (i + 1) := by
  unfold crashS; split
  · exact h.succ
  · exact ⟨by have := h.1; show S.n ≤ i + 1; omega, h.2⟩
end Go.Proofs.YtbnkpnllgoghnaaGreat.Plays

namespace Go.Proofs.YtbnkpnllgoghnaaGreat.PmC
open Go.ChangeShapes Go.WideShapes Go.ChangeAt Go.RowKit
open Go.Proofs.YtbnkpnllgoghnaaGreat.Mem Go.Proofs.YtbnkpnllgoghnaaGreat.Blk Go.Proofs.YtbnkpnllgoghnaaGreat.Cells Go.Proofs.YtbnkpnllgoghnaaGreat.Orow Go.Proofs.YtbnkpnllgoghnaaGreat.GrC Go.Proofs.YtbnkpnllgoghnaaGreat.MdM Go.Proofs.YtbnkpnllgoghnaaGreat.MdC Go.Proofs.YtbnkpnllgoghnaaGreat.Stages
open Go.Proofs.YtbnkpnllgoghnaaGreat.HdM (lst hnd cnt sum lst_eq hnd_at hnd_none hnd_cases cnt_yes cnt_no cnt_le sum_le)
/-! ### Any state -/
/-- A state, whatever it may be: which pages are said to be there, rows of bodies, rows of handles. -/
structure St where
  nT : Nat
  nB : Nat
  nH : Nat
  T : Nat → Bool
  B : Nat → List Int
  H : Nat → List Int
namespace St
variable (s t : St)
def okB (i : Nat) : Prop := (s.B i).length = 16 ∧ (s.T i = false → ∀ c ∈ s.B i, c = 0)
/-- What stands in a handle: nothing, or a page that is there. -/
def okP (x : Int) : Prop := x = -1 ∨ ((0 ≤ x ∧ x < (s.nT : Int)) ∧ s.T x.toNat = true)
def okH (c : Nat) : Prop := (s.H c).length = 6 ∧ ∀ j, j < 6 → s.okP ((s.H c).getD j 0)
def may : Prop := ((1 ≤ s.nT ∧ s.nT ≤ 48) ∧ 1 ≤ s.nH ∧ s.nH ≤ 6) ∧ s.nB = s.nT ∧ (∀ i, i < s.nB → s.okB i) ∧ ∀ c, c < s.nH → s.okH c
structure same : Prop where
  nT : s.nT = t.nT
  nB : s.nB = t.nB
  nH : s.nH = t.nH
  T : ∀ i, i < s.nT → s.T i = t.T i
  B : ∀ i, i < s.nB → s.B i = t.B i
  H : ∀ i, i < s.nH → s.H i = t.H i
structure few : Prop where
  nT : s.nT ≤ 60
  nB : s.nB ≤ 60
  nH : s.nH ≤ 8
  B : ∀ i, i < s.nB → (s.B i).length ≤ 40
  H : ∀ i, i < s.nH → (s.H i).length ≤ 10
end St
/-- A state of the model, as any state. -/
def stOf (a : Md) : St := ⟨a.n, a.n, a.N, a.T, a.B, fun c => six (a.H c)⟩
section
variable {s t : St} {a : Md}
theorem six_len (f : Nat → Int) : (six f).length = 6 := by unfold six; simp
theorem same_refl (s : St) : s.same s := ⟨rfl, rfl, rfl, fun _ _ => rfl, fun _ _ => rfl, fun _ _ => rfl⟩
theorem good_may (g : MdM.Good a) : (stOf a).may := by
  refine ⟨⟨g.n, g.N⟩, rfl, fun i hi => ⟨g.len i, fun ht c hc => ?_⟩, fun c hc => ⟨six_len _, fun j hj => ?_⟩⟩
  · have hc : c ∈ a.B i := hc
    rw [g.zer i hi ht] at hc
    exact (List.mem_replicate.1 hc).2
  · show (stOf a).okP ((six (a.H c)).getD j 0)
    rw [six_get _ hj]
    rcases g.hnd c j hc hj with e | ⟨p, e, hp, hT⟩
    · exact .inl e
    · refine .inr ⟨by rw [e]; exact ⟨by omega, by show (p : Int) < (a.n : Int); omega⟩, ?_⟩
      rw [e]
      exact hT
theorem good_few (g : MdM.Good a) : (stOf a).few :=
  ⟨by have := g.n; show a.n ≤ 60; omega, by have := g.n; show a.n ≤ 60; omega, by have := g.N; show a.N ≤ 8; omega, fun i _ => by rw [show (stOf a).B i = a.B i from rfl, g.len i]; omega, fun i _ => by rw [show (stOf a).H i = six (a.H i) from rfl, six_len]; omega⟩
end
/-! ### A state that is read -/
/-- A slice of truths. -/
def Flags (w : World) (A : Option Addr) (n : Nat) (T : Nat → Bool) : Prop := 0 < n → ∃ b off, A = some ⟨b, off, none⟩ ∧ ∀ i, i < n → w.cell? ⟨b, off + i, none⟩ = some (.bool (T i))
/-- A slice of slices of numbers. -/
def Lists (w : World) (k : IntKind) (A : Option Addr) (n : Nat) (L : Nat → List Int) : Prop :=
  0 < n → ∃ b off, A = some ⟨b, off, none⟩ ∧ ∀ i, i < n → ∃ A' c, w.cell? ⟨b, off + i, none⟩ = some (.slice A' (L i).length c) ∧ Sl w w.heap.size k A' (L i).length (L i)
/-- The parts of a state. -/
structure Parts (w : World) (AT : Option Addr) (cT : Nat) (AB : Option Addr) (cB : Nat) (AH : Option Addr) (cH : Nat) (s : St) : Prop where
  T : Flags w AT s.nT s.T
  B : Lists w .u8 AB s.nB s.B
  H : Lists w .i64 AH s.nH s.H
  byt : ∀ i, i < s.nB → Bytes (s.B i)
abbrev stv (AT : Option Addr) (cT : Nat) (AB : Option Addr) (cB : Nat) (AH : Option Addr) (cH : Nat) (s : St) : Value := .agg #[.slice AT s.nT cT, .slice AB s.nB cB, .slice AH s.nH cH]
/-- The value v reads as the state s. -/
def Seen (w : World) (v : Value) (s : St) : Prop := ∃ AT cT AB cB AH cH, v = stv AT cT AB cB AH cH s ∧ Parts w AT cT AB cB AH cH s
section
variable {w w' : World} {F : Nat → Prop} {v : Value} {k : IntKind} {A AT AB AH : Option Addr} {n cT cB cH : Nat} {T U : Nat → Bool} {L M : Nat → List Int} {s t : St}
theorem Flags.grow (h : Flags w A n T) (hk : Grow w w') : Flags w' A n T := fun hn => by
  obtain ⟨b, off, e, hc⟩ := h hn
  exact ⟨b, off, e, fun i hi => hk.cellN (hc i hi) id⟩
theorem sl_grow {zs : List Int} (h : Sl w w.heap.size k A n zs) (hk : Grow w w') : Sl w' w'.heap.size k A n zs := (Blk.Sl.kept h hk (Nat.le_refl _) fun _ _ x => x).more hk.size
theorem Lists.grow (h : Lists w k A n L) (hk : Grow w w') : Lists w' k A n L := fun hn => by
  obtain ⟨b, off, e, hc⟩ := h hn
  refine ⟨b, off, e, fun i hi => ?_⟩
  obtain ⟨A', c, h1, h2⟩ := hc i hi
  exact ⟨A', c, hk.cellN h1 id, sl_grow h2 hk⟩
theorem Parts.grow (h : Parts w AT cT AB cB AH cH s) (hk : Grow w w') : Parts w' AT cT AB cB AH cH s := ⟨h.T.grow hk, h.B.grow hk, h.H.grow hk, h.byt⟩
theorem Seen.grow (h : Seen w v s) (hk : Grow w w') : Seen w' v s := by
  obtain ⟨AT, cT, AB, cB, AH, cH, e, hp⟩ := h
  exact ⟨AT, cT, AB, cB, AH, cH, e, hp.grow hk⟩
theorem Seen.congr (h : Seen w v s) (e : s.same t) : Seen w v t := by
  obtain ⟨AT, cT, AB, cB, AH, cH, rfl, hp⟩ := h
  refine ⟨AT, cT, AB, cB, AH, cH, ?_, fun hn => ?_, fun hn => ?_, fun hn => ?_, fun i hi => ?_⟩
  · unfold stv; rw [e.nT, e.nB, e.nH]
  · rw [← e.nT] at hn
    obtain ⟨b, off, e1, hc⟩ := hp.T hn
    exact ⟨b, off, e1, fun i hi => by rw [← e.nT] at hi; rw [← e.T i hi]; exact hc i hi⟩
  · rw [← e.nB] at hn
    obtain ⟨b, off, e1, hc⟩ := hp.B hn
    exact ⟨b, off, e1, fun i hi => by rw [← e.nB] at hi; rw [← e.B i hi]; exact hc i hi⟩
  · rw [← e.nH] at hn
    obtain ⟨b, off, e1, hc⟩ := hp.H hn
    exact ⟨b, off, e1, fun i hi => by rw [← e.nH] at hi; rw [← e.H i hi]; exact hc i hi⟩
  · rw [← e.nB] at hi
    rw [← e.B i hi]
    exact hp.byt i hi
end
/-! ### A state of the call's own -/
def ucell (b : List Int) (j : Nat) : Value := .int .u8 (b.getD j 0)
def bsl (q cp : Nat → Nat) (i : Nat) : Value := .slice (some ⟨q i, 0, none⟩) 16 (cp i)
/-- Three slices of the call's own, two of them of slices, all apart, in blocks of G. -/
structure PM (w : World) (G : Nat → Prop) (gT cT gB cB gH cH : Nat) (qb cb q cp : Nat → Nat) (a : Md) : Prop where
  tb : OR w gT 4 1 cT a.n (tcell a.T)
  bb : OR w gB 22 1 cB a.n (bsl qb cb)
  br : ∀ i, i < a.n → OR w (qb i) 5 1 (cb i) 16 (ucell (a.B i))
  hb : OR w gH 33 1 cH a.N (scell q cp)
  rb : ∀ i, i < a.N → OR w (q i) 3 1 (cp i) 6 (hcell (a.H i))
  bnj : ∀ i j, i < a.n → j < a.n → qb i = qb j → i = j
  inj : ∀ i j, i < a.N → j < a.N → q i = q j → i = j
  ne : gT ≠ gB ∧ gT ≠ gH ∧ gB ≠ gH
  nb : ∀ i, i < a.n → qb i ≠ gT ∧ qb i ≠ gB ∧ qb i ≠ gH
  nq : ∀ i, i < a.N → q i ≠ gT ∧ q i ≠ gB ∧ q i ≠ gH
  nx : ∀ i j, i < a.n → j < a.N → qb i ≠ q j
  inG : G gT ∧ G gB ∧ G gH
  bG : ∀ i, i < a.n → G (qb i)
  qG : ∀ i, i < a.N → G (q i)
/-- The value v is the state a; its blocks lie in G. -/
structure PAt (w : World) (G : Nat → Prop) (v : Value) (a : Md) : Prop where
  good : MdM.Good a
  mem : ∃ gT cT gB cB gH cH qb cb q cp, v = sval gT cT gB cB gH cH a ∧ PM w G gT cT gB cB gH cH qb cb q cp a
section
variable {w w' : World} {G F X : Nat → Prop} {v : Value} {gT cT gB cB gH cH : Nat} {qb cb q cp : Nat → Nat} {a : Md}
theorem PM.kept (h : PM w G gT cT gB cB gH cH qb cb q cp a) (hk : Kept F w w') (hF : ∀ k, G k → ¬ F k) : PM w' G gT cT gB cB gH cH qb cb q cp a :=
  ⟨h.tb.kept hk (hF _ h.inG.1), h.bb.kept hk (hF _ h.inG.2.1), fun i hi => (h.br i hi).kept hk (hF _ (h.bG i hi)), h.hb.kept hk (hF _ h.inG.2.2), fun i hi => (h.rb i hi).kept hk (hF _ (h.qG i hi)), h.bnj, h.inj, h.ne, h.nb, h.nq, h.nx, h.inG, h.bG, h.qG⟩
theorem PM.mono (h : PM w G gT cT gB cB gH cH qb cb q cp a) (hX : ∀ k, k < w.heap.size → G k → X k) : PM w X gT cT gB cB gH cH qb cb q cp a :=
  ⟨h.tb, h.bb, h.br, h.hb, h.rb, h.bnj, h.inj, h.ne, h.nb, h.nq, h.nx, ⟨hX _ h.tb.lt h.inG.1, hX _ h.bb.lt h.inG.2.1, hX _ h.hb.lt h.inG.2.2⟩, fun i hi => hX _ (h.br i hi).lt (h.bG i hi), fun i hi => hX _ (h.rb i hi).lt (h.qG i hi)⟩
theorem PAt.kept (h : PAt w G v a) (hk : Kept F w w') (hF : ∀ k, G k → ¬ F k) : PAt w' G v a := by
  obtain ⟨gT, cT, gB, cB, gH, cH, qb, cb, q, cp, e, hm⟩ := h.mem
  exact ⟨h.good, gT, cT, gB, cB, gH, cH, qb, cb, q, cp, e, hm.kept hk hF⟩
theorem PAt.grow (h : PAt w G v a) (hk : Grow w w') : PAt w' G v a := h.kept hk fun _ _ x => x
theorem PAt.mono (h : PAt w G v a) (hX : ∀ k, k < w.heap.size → G k → X k) : PAt w X v a := by
  obtain ⟨gT, cT, gB, cB, gH, cH, qb, cb, q, cp, e, hm⟩ := h.mem
  exact ⟨h.good, gT, cT, gB, cB, gH, cH, qb, cb, q, cp, e, hm.mono hX⟩
/-- One handle has another page. -/
theorem PM.putH (h : PM w G gT cT gB cB gH cH qb cb q cp a) {c : Nat} (hc : c < a.N) (j : Nat) (p : Int) : PM (w.setCell ⟨q c, j, none⟩ (.int .i64 p)) G gT cT gB cB gH cH qb cb q cp (a.putH c j p) := by
  obtain ⟨n1, n2, n3⟩ := h.nq c hc
  refine ⟨h.tb.other (p := ⟨q c, j, none⟩) n1.symm _, h.bb.other (p := ⟨q c, j, none⟩) n2.symm _, fun i hi => (h.br i hi).other (p := ⟨q c, j, none⟩) (h.nx i c hi hc) _, h.hb.other (p := ⟨q c, j, none⟩) n3.symm _, fun i hi => ?_, h.bnj, h.inj, h.ne, h.nb, h.nq, h.nx, h.inG, h.bG, h.qG⟩
  have hi : i < a.N := hi
  by_cases e : i = c
  · subst e
    refine ((h.rb i hi).set j _).congr fun y hy => ?_
    show (if y = j then Value.int .i64 p else .int .i64 (a.H i y)) = .int .i64 (if i = i ∧ y = j then p else a.H i y)
    by_cases e2 : y = j
    · rw [if_pos e2, if_pos ⟨rfl, e2⟩]
    · rw [if_neg e2, if_neg fun x => e2 x.2]
  · refine ((h.rb i hi).other (p := ⟨q c, j, none⟩) (fun e2 => e (h.inj i c hi hc e2)) _).congr fun y hy => ?_
    show Value.int .i64 (a.H i y) = .int .i64 (if i = c ∧ y = j then p else a.H i y)
    rw [if_neg fun x => e x.1]
/-- One page is there, or not. -/
theorem PM.flag (h : PM w G gT cT gB cB gH cH qb cb q cp a) (p : Nat) (t : Bool) : PM (w.setCell ⟨gT, p, none⟩ (.bool t)) G gT cT gB cB gH cH qb cb q cp ⟨a.n, a.N, upd a.T p t, a.B, a.H⟩ :=
  ⟨(h.tb.set p _).congr fun i _ => by
    show (if i = p then Value.bool t else .bool (a.T i)) = .bool (upd a.T p t i)
    by_cases e : i = p
    · subst e; rw [if_pos rfl, upd_same]
    · rw [if_neg e, upd_other _ _ e], h.bb.other (p := ⟨gT, p, none⟩) h.ne.1.symm _, fun i hi => (h.br i hi).other (p := ⟨gT, p, none⟩) (h.nb i hi).1 _, h.hb.other (p := ⟨gT, p, none⟩) h.ne.2.1.symm _, fun i hi => (h.rb i hi).other (p := ⟨gT, p, none⟩) (h.nq i hi).1 _, h.bnj, h.inj, h.ne, h.nb, h.nq, h.nx, h.inG, h.bG, h.qG⟩
/-- One body is another: its block has been written. -/
theorem PM.body (h : PM w G gT cT gB cB gH cH qb cb q cp a) {p : Nat} (hp : p < a.n) {b : List Int} (hk : Kept (· = qb p) w w') (hb : OR w' (qb p) 5 1 (cb p) 16 (ucell b)) : PM w' G gT cT gB cB gH cH qb cb q cp (a.putB p b) := by
  obtain ⟨n1, n2, n3⟩ := h.nb p hp
  refine ⟨h.tb.kept hk n1.symm, h.bb.kept hk n2.symm, fun i hi => ?_, h.hb.kept hk n3.symm, fun i hi => (h.rb i hi).kept hk fun e => h.nx p i hp hi e.symm, h.bnj, h.inj, h.ne, h.nb, h.nq, h.nx, h.inG, h.bG, h.qG⟩
  have hi : i < a.n := hi
  show OR w' (qb i) _ 1 (cb i) 16 (ucell (upd a.B p b i))
  by_cases e : i = p
  · subst e; rw [upd_same]; exact hb
  · rw [upd_other _ _ e]; exact (h.br i hi).kept hk fun e2 => e (h.bnj i p hi hp e2)
/-- It is seen as what it is. -/
theorem PM.parts (h : PM w G gT cT gB cB gH cH qb cb q cp a) (g : MdM.Good a) : Parts w (some ⟨gT, 0, none⟩) cT (some ⟨gB, 0, none⟩) cB (some ⟨gH, 0, none⟩) cH (stOf a) := by
  refine ⟨fun _ => ⟨gT, 0, rfl, fun i hi => ?_⟩, fun _ => ⟨gB, 0, rfl, fun i hi => ⟨some ⟨qb i, 0, none⟩, cb i, ?_, ?_⟩⟩, fun _ => ⟨gH, 0, rfl, fun i hi => ⟨some ⟨q i, 0, none⟩, cp i, ?_, ?_⟩⟩, fun i _ => g.byt i⟩
  · rw [Nat.zero_add]; exact h.tb.cell (by have hi : i < a.n := hi; omega)
  · rw [Nat.zero_add]
    have := h.bb.cell (i := i) (by have hi : i < a.n := hi; omega)
    rw [this]
    show some (Value.slice _ 16 _) = some (.slice _ (a.B i).length _)
    rw [g.len i]
  · have hl : ((stOf a).B i).length = 16 := g.len i
    rw [hl]
    have ho := h.br i hi
    exact ⟨hl, fun _ => ⟨qb i, 0, rfl, ho.lt, fun j hj => by rw [Nat.zero_add]; exact ho.cell (by omega)⟩⟩
  · rw [Nat.zero_add]
    have := h.hb.cell (i := i) (by have hi : i < a.N := hi; omega)
    rw [this]
    show some (Value.slice _ 6 _) = some (.slice _ (six (a.H i)).length _)
    rw [six_len]
  · have hl : ((stOf a).H i).length = 6 := six_len _
    rw [hl]
    exact six_sl (h.rb i hi)
theorem PAt.seen (h : PAt w G v a) : Seen w v (stOf a) := by
  obtain ⟨gT, cT, gB, cB, gH, cH, qb, cb, q, cp, rfl, hm⟩ := h.mem
  exact ⟨_, _, _, _, _, _, rfl, hm.parts h.good⟩
end
/-! ### A state's box -/
theorem st_size : (Tryz.prog.info? 64).map (·.size) = some 3 := by kernel_rfl
theorem load_st {w : World} {g : Nat} {t : TypeId} {x y z : Value} (hg : Blk w g t [x, y, z]) : (loadVar 64 ⟨g, 0, none⟩).run Tryz.prog w = .ok (.agg #[x, y, z]) w :=
  run_loadVar_row w g t 64 #[x, y, z] (0, 0) _ hg Tryz.underlying64 rfl st_size
theorem ret_st {w : World} {fn : Func} {R : Ending → World → Prop} {act : Act} {p g : Nat} {t : TypeId} {x y z : Value} (h : fn.results = #[.cell p 64]) (hp : act.tmps.getD p undef = .pointer (some ⟨g, 0, none⟩)) (hg : Blk w g t [x, y, z]) (hd : act.defers = []) (hR : R (.returned (.agg #[x, y, z])) w) : bodyPost Tryz.prog fn R .ret act w := by
  refine bodyPost_ret ?_ hd hR
  have hp' : act.tmps[p]?.getD undef = .pointer (some ⟨g, 0, none⟩) := by simpa using hp
  simp [results, h, hp', asAddr, load_st hg]
theorem ret_st_res {w : World} {fn : Func} {R : Ending → World → Prop} {act : Act} {p g p2 g2 : Nat} {t t2 : TypeId} {x y z c d e f : Value} (h : fn.results = #[.cell p 64, .cell p2 27]) (hp : act.tmps.getD p undef = .pointer (some ⟨g, 0, none⟩)) (hp2 : act.tmps.getD p2 undef = .pointer (some ⟨g2, 0, none⟩)) (hg : Blk w g t [x, y, z]) (hg2 : Blk w g2 t2 [c, d, e, f]) (hd : act.defers = []) (hR : R (.returned (.tuple #[.agg #[x, y, z], .agg #[c, d, e, f]])) w) : bodyPost Tryz.prog fn R .ret act w := by
  refine bodyPost_ret ?_ hd hR
  have hp' : act.tmps[p]?.getD undef = .pointer (some ⟨g, 0, none⟩) := by simpa using hp
  have hp2' : act.tmps[p2]?.getD undef = .pointer (some ⟨g2, 0, none⟩) := by simpa using hp2
  simp [results, h, hp', hp2', asAddr, load_st hg, load_res hg2]
end Go.Proofs.YtbnkpnllgoghnaaGreat.PmC

namespace Go.Proofs.YtbnkpnllgoghnaaGreat.MdR
open Go.ChangeShapes Go.WideShapes Go.ChangeAt Go.RowKit
open Go.Proofs.YtbnkpnllgoghnaaGreat.Mem Go.Proofs.YtbnkpnllgoghnaaGreat.Blk Go.Proofs.YtbnkpnllgoghnaaGreat.Cells Go.Proofs.YtbnkpnllgoghnaaGreat.Orow Go.Proofs.YtbnkpnllgoghnaaGreat.GrC Go.Proofs.YtbnkpnllgoghnaaGreat.MdM Go.Proofs.YtbnkpnllgoghnaaGreat.MdC Go.Proofs.YtbnkpnllgoghnaaGreat.Stages
open Go.Proofs.YtbnkpnllgoghnaaGreat.HdM (lst hnd cnt sum lst_eq hnd_at hnd_none hnd_cases cnt_yes cnt_no cnt_le sum_le)
section
variable {w w' : World} {G F X : Nat → Prop} {v : Value} {gT cT gB cB gH cH : Nat} {q cp : Nat → Nat} {a : Md}
theorem give_any (h : SAt w G v a) {k j p : Nat} (hk : k < a.N) (hf : a.free k = (j : Int)) (hp : p < a.n) (hT : a.T p = true) : Calls Tryz.prog 113 #[v, .int .i64 (k : Int), .int .i64 (p : Int)] w fun e w' => e = .returned (.int .i64 (j : Int)) ∧ SAt w' G v (a.putH k j p) ∧ Kept G w w' := by
  obtain ⟨gT, cT, gB, cB, gH, cH, q, cp, rfl, hm⟩ := h.mem
  have HGD := Lib.hid (h.good.putH k j (p := (p : Int)) (.inr ⟨p, rfl, hp, hT⟩))
  unfold sval
  have HC := Lib.hid (hm.client hk)
  have HG0 : Hid (Grow w (w.alloc (.cells #[.slice (some ⟨gT, 0, none⟩) a.n cT, .slice (some ⟨gB, 0, none⟩) a.n cB, .slice (some ⟨gH, 0, none⟩) a.N cH] 50))) := (Kept.refl _ _).alloc _
  have HM := Lib.hid (hm.kept HG0.out fun _ _ x => x)
  have HLO := Lib.hid fun (j : Nat) (hj : j < 6) => h.good.lo hk hj
  have HK := Lib.hid hk
  have HF := Lib.hid hf
  have hkz : (k : Int) < (a.N : Int) := by omega
  clear hm h hk hf hp hT
  go_enter Tryz.func113, Tryz.ntmps113
  go_upto_region 1 with (fail)
  generalize w.alloc (.cells #[.slice (some ⟨gT, 0, none⟩) a.n cT, .slice (some ⟨gB, 0, none⟩) a.n cB, .slice (some ⟨gH, 0, none⟩) a.N cH] 50) = w0 at HC HG0 HM ⊢
  generalize w.heap.size = s at HC ⊢
  have s2 := HC.out.s2
  have sl := HC.out.sl
  go_wp2
  go_loopg [7] 6 (fun gx i wr => ∃ t : Nat, t + gx = 6 ∧ i = .int .i64 (t : Int) ∧ w0 = wr ∧ ∀ x, x < t → a.H k x ≠ -1)
  case atStart => exact ⟨0, by omega, rfl, rfl, fun t h => absurd h (Nat.not_lt_zero t)⟩
  case round =>
    obtain ⟨t, hg, rfl, rfl, hno⟩ := hrel
    have HG := Lib.hid hg
    have HNO := Lib.hid hno
    clear hg hno
    by_cases ht : t < 6
    · have htz : (t : Int) < 6 := by omega
      have r1 := hcell_get HC.out.row ht
      have rf := HC.out.row.frozen t
      have hlo := HLO.out t ht
      by_cases hx : a.H k t = -1
      · have e1 : (t : Int) = (j : Int) := (hnd_at HNO.out ht hx).symm.trans HF.out
        have e2 : t = j := by omega
        subst e2
        rw [hx] at r1
        have HS : Hid (SM (w0.setCell ⟨q k, t, none⟩ (.int .i64 (p : Int))) G gT cT gB cB gH cH q cp (a.putH k t p)) := HM.out.putH HK.out t p
        have HQ := Lib.hid (HM.out.qG k HK.out)
        clear hx hlo ht e1
        go_wp2
        go_ret
        exact ⟨rfl, ⟨HGD.out, gT, cT, gB, cB, gH, cH, q, cp, rfl, HS.out⟩, HG0.out.kept.trans ((kept_set w0 (q k) t _).mono fun x _ e => by rw [e]; exact HQ.out)⟩
      · have hx0 : 0 ≤ a.H k t := by omega
        have HX := Lib.hid hx
        clear hx hlo ht
        generalize a.H k t = x at r1 hx0
        go_wp2
        go_roundg (gk - 1)
        case measure => have := HG.out; omega
        case rel => exact ⟨t + 1, by have := HG.out; omega, by go_num, rfl, fun y hy => by
          by_cases e : y = t
          · subst e; exact HX.out
          · exact HNO.out y (by omega)⟩
    · have ht6 : t = 6 := by have := HG.out; omega
      subst ht6
      have e1 : hnd (a.H k) 6 = -1 := hnd_none HNO.out
      have e2 : a.free k = -1 := e1
      have := HF.out
      omega
/-- The pins of the first m clients. -/
def pinsTo (a : Md) (p : Int) (m : Nat) : Nat := if p < 0 then 0 else sum (a.has p) m
def pinsAt (a : Md) (p : Int) (m t : Nat) : Nat := if p < 0 then 0 else sum (a.has p) m + cnt (a.H m) p t
theorem pinsAt_zero (a : Md) (p : Int) (m : Nat) : pinsAt a p m 0 = pinsTo a p m := by unfold pinsAt pinsTo; split <;> rfl
theorem pinsAt_six (a : Md) (p : Int) (m : Nat) : pinsAt a p m 6 = pinsTo a p (m + 1) := by unfold pinsAt pinsTo; split <;> rfl
theorem pinsAt_yes {a : Md} {p : Int} {m t : Nat} (h : a.H m t = p) (h0 : 0 ≤ p) : pinsAt a p m (t + 1) = pinsAt a p m t + 1 := by
  unfold pinsAt
  rw [if_neg (by omega), if_neg (by omega), cnt_yes h]
  omega
theorem pinsAt_no {a : Md} {p : Int} {m t : Nat} (h : a.H m t ≠ p ∨ p < 0) : pinsAt a p m (t + 1) = pinsAt a p m t := by
  unfold pinsAt
  by_cases h0 : p < 0
  · rw [if_pos h0, if_pos h0]
  · rw [if_neg h0, if_neg h0, cnt_no (h.resolve_right h0)]
theorem pinsAt_le {a : Md} (g : MdM.Good a) (p : Int) {m t : Nat} (hm : m < a.N) (ht : t ≤ 6) : pinsAt a p m t ≤ 42 := by
  unfold pinsAt
  have e1 := sum_le (g := a.has p) (b := 6) (fun i => cnt_le _ _ _) m
  have e2 := cnt_le (a.H m) p t
  have := g.N
  split <;> omega
set_option maxHeartbeats 2000000 in
theorem pins_any (h : SAt w G v a) (p : Int) : Calls Tryz.prog 114 #[v, .int .i64 p] w fun e w' => e = .returned (.int .i64 (a.pins p : Int)) ∧ Grow w w' := by
  obtain ⟨gT, cT, gB, cB, gH, cH, q, cp, rfl, hm⟩ := h.mem
  unfold sval
  have HG0 : Hid (Grow w (w.alloc (.cells #[.slice (some ⟨gT, 0, none⟩) a.n cT, .slice (some ⟨gB, 0, none⟩) a.n cB, .slice (some ⟨gH, 0, none⟩) a.N cH] 50))) := (Kept.refl _ _).alloc _
  have HCL := Lib.hid fun (k : Nat) (hk : k < a.N) => hm.client hk
  have HGD := Lib.hid h.good
  have hnz : (a.N : Int) ≤ 6 := by have := HGD.out.N; omega
  have HEND : Hid (pinsTo a p a.N = a.pins p) := rfl
  have hN0 := HGD.out.N.1
  have s2 := (hm.client (k := 0) (by omega)).s2
  clear h hm hN0
  go_enter Tryz.func114, Tryz.ntmps114
  go_upto_region 1 with (fail)
  generalize w.alloc (.cells #[.slice (some ⟨gT, 0, none⟩) a.n cT, .slice (some ⟨gB, 0, none⟩) a.n cB, .slice (some ⟨gH, 0, none⟩) a.N cH] 50) = w0 at HCL HG0 s2 ⊢
  generalize w.heap.size = s at HCL s2 ⊢
  go_wp2
  go_loopg [5, 6] a.N (fun gx s i wr => ∃ j : Nat, j + gx = a.N ∧ i = .int .i64 (j : Int) ∧ s = .int .i64 ((pinsTo a p j : Nat) : Int) ∧ w0 = wr)
  case atStart => exact ⟨0, by omega, rfl, by unfold pinsTo; split <;> rfl, rfl⟩
  case round =>
    obtain ⟨j, hg, rfl, rfl, rfl⟩ := hrel
    have HG := Lib.hid hg
    clear hg
    by_cases hj : j < a.N
    · have hjz : (j : Int) < (a.N : Int) := by omega
      have c1 := (HCL.out j hj).sl
      have HROW := Lib.hid (HCL.out j hj).row
      have HJ := Lib.hid hj
      clear hj
      generalize q j = b at c1 HROW
      generalize cp j = c at c1 HROW
      go_wp2
      go_loopg [5, 7] 6 (fun gx s i wr => ∃ t : Nat, t + gx = 6 ∧ i = .int .i64 (t : Int) ∧ s = .int .i64 ((pinsAt a p j t : Nat) : Int) ∧ w0 = wr)
      case atStart => exact ⟨0, by omega, rfl, by rw [pinsAt_zero], rfl⟩
      case round =>
        obtain ⟨t, hg, rfl, rfl, rfl⟩ := hrel
        have HT := Lib.hid hg
        clear hg
        by_cases ht : t < 6
        · have htz : (t : Int) < 6 := by omega
          have r1 := hcell_get HROW.out ht
          have hs42 : ((pinsAt a p j t : Nat) : Int) ≤ 42 := by have := pinsAt_le HGD.out p HJ.out (show t ≤ 6 by omega); omega
          have HY := Lib.hid fun h => pinsAt_yes (a := a) (p := p) (m := j) (t := t) h
          have HX := Lib.hid fun h => pinsAt_no (a := a) (p := p) (m := j) (t := t) h
          generalize a.H j t = x at r1 HY HX
          by_cases hx : x = p
          · by_cases h0 : p < 0
            · have hc := HX.out (.inr h0)
              have HC := Lib.hid hc
              clear hc HY HX
              subst hx
              go_wp2
              go_roundg (gk - 1)
              case measure => have := HT.out; omega
              case rel => exact ⟨t + 1, by have := HT.out; omega, by go_num, by rw [HC.out], rfl⟩
            · have h1 : 0 ≤ p := by omega
              have hc := HY.out hx h1
              have HC := Lib.hid hc
              clear hc HY HX h0
              subst hx
              go_wp2
              go_roundg (gk - 1)
              case measure => have := HT.out; omega
              case rel => exact ⟨t + 1, by have := HT.out; omega, by go_num, by rw [HC.out]; go_num, rfl⟩
          · have hc := HX.out (.inl hx)
            have HC := Lib.hid hc
            have hx' : (x == p) = false := by simpa using hx
            clear hc HY HX hx
            go_wp2
            go_roundg (gk - 1)
            case measure => have := HT.out; omega
            case rel => exact ⟨t + 1, by have := HT.out; omega, by go_num, by rw [HC.out], rfl⟩
        · obtain rfl : t = 6 := by have := HT.out; omega
          have hsix := Lib.hid (pinsAt_six a p j)
          clear ht
          go_wp2
          go_roundg (a.N - (j + 1))
          case measure => have := HG.out; have := HJ.out; omega
          case rel => exact ⟨j + 1, by have := HG.out; have := HJ.out; omega, by go_num, by rw [hsix.out], rfl⟩
    · obtain rfl : j = a.N := by have := HG.out; omega
      rw [HEND.out]
      go_wp2
      go_ret
      exact ⟨rfl, HG0.out⟩
end
end Go.Proofs.YtbnkpnllgoghnaaGreat.MdR

namespace Go.Proofs.YtbnkpnllgoghnaaGreat.MdD
open Go.ChangeShapes Go.WideShapes Go.ChangeAt Go.RowKit
open Go.Proofs.YtbnkpnllgoghnaaGreat.Mem Go.Proofs.YtbnkpnllgoghnaaGreat.Blk Go.Proofs.YtbnkpnllgoghnaaGreat.Cells Go.Proofs.YtbnkpnllgoghnaaGreat.Orow Go.Proofs.YtbnkpnllgoghnaaGreat.GrC Go.Proofs.YtbnkpnllgoghnaaGreat.MdM Go.Proofs.YtbnkpnllgoghnaaGreat.MdC Go.Proofs.YtbnkpnllgoghnaaGreat.MdR Go.Proofs.YtbnkpnllgoghnaaGreat.Stages Go.Proofs.YtbnkpnllgoghnaaGreat.Trees
open Go.Proofs.YtbnkpnllgoghnaaGreat.HdM (lst hnd cnt sum lst_eq hnd_at hnd_none hnd_cases cnt_yes cnt_no cnt_le sum_le)
/-- The value v is the call o; its data lie below block b. -/
def OpV (w : World) (b : Nat) (v : Value) (o : MdOp) : Prop := ∃ D dl dc, v = .agg #[.int .i64 o.k, .int .i64 o.p, .int .i64 o.h, .int .i64 o.o, .int .i64 o.n, .slice D dl dc] ∧ Sl w b .u8 D dl o.d ∧ Bytes o.d ∧ dl ≤ dc ∧ dc ≤ maxLen
/-- What a call answers, and what it makes of the state. -/
def DoPost (G : Nat → Prop) (v : Value) (w : World) (x : Re × Md) (e : Ending) (w' : World) : Prop := (∃ rv, e = .returned rv ∧ ReV w' w.heap.size rv x.1) ∧ SAt w' G v x.2 ∧ Kept G w w'
section
variable {w w0 w1 : World} {G F X : Nat → Prop} {v : Value} {gT cT gB cB gH cH s : Nat} {q cp : Nat → Nat} {a a' : Md} {o : MdOp} {D : Option Addr} {dl dc : Nat}
theorem smKeep (h : SM w G gT cT gB cB gH cH q cp a) (hk : Kept F w w1) (h1 : ¬ F gT) (h2 : ¬ F gB) (h3 : ¬ F gH) (h4 : ∀ i, i < a.N → ¬ F (q i)) : SM w1 G gT cT gB cB gH cH q cp a :=
  ⟨h.tb.kept hk h1, h.bb.kept hk h2, h.hb.kept hk h3, fun i hi => (h.rb i hi).kept hk (h4 i hi), h.inj, h.ne, h.nq, h.inG, h.qG⟩
/-- The three boxes of the call. -/
structure Bx (w w0 : World) (G : Nat → Prop) (gT cT gB cB gH cH : Nat) (q cp : Nat → Nat) (a : Md) (s : Nat) (o : MdOp) (D : Option Addr) (dl dc : Nat) : Prop where
  s0 : w0.cell? ⟨s, 0, none⟩ = some (.slice (some ⟨gT, 0, none⟩) a.n cT)
  s1 : w0.cell? ⟨s, 1, none⟩ = some (.slice (some ⟨gB, 0, none⟩) a.n cB)
  s2 : w0.cell? ⟨s, 2, none⟩ = some (.slice (some ⟨gH, 0, none⟩) a.N cH)
  sb : Blk w0 s 50 [.slice (some ⟨gT, 0, none⟩) a.n cT, .slice (some ⟨gB, 0, none⟩) a.n cB, .slice (some ⟨gH, 0, none⟩) a.N cH]
  ob : Blk w0 (s + 1) 30 [.int .i64 o.k, .int .i64 o.p, .int .i64 o.h, .int .i64 o.o, .int .i64 o.n, .slice D dl dc]
  rb : Blk w0 (s + 1 + 1) 27 [.int .i64 0, .int .i64 0, .int .i64 0, .slice none 0 0]
  sm : SM w0 G gT cT gB cB gH cH q cp a
  gr : Grow w w0
  sz : s = w.heap.size
  lt : ∀ k, G k → k < s
  da : Sl w0 s .u8 D dl o.d
abbrev put4 (w : World) (g : Nat) (x y z d : Value) : World := (((w.setCell ⟨g, 0, none⟩ x).setCell ⟨g, 1, none⟩ y).setCell ⟨g, 2, none⟩ z).setCell ⟨g, 3, none⟩ d
theorem put4_blk {g : Nat} {t : TypeId} {x y z d x' y' z' d' : Value} (h : Blk w g t [x', y', z', d']) : Blk (put4 w g x y z d) g t [x, y, z, d] := (((h.set 0 x).set 1 y).set 2 z).set 3 d
theorem put4_kept (w : World) (g : Nat) (x y z d : Value) : Kept (· = g) w (put4 w g x y z d) := (((kept_set w g 0 x).trans (kept_set _ g 1 y)).trans (kept_set _ g 2 z)).trans (kept_set _ g 3 d)
theorem Bx.fin (H : Bx w w0 G gT cT gB cB gH cH q cp a s o D dl dc) (hs : SM w1 G gT cT gB cB gH cH q cp a') (hg : MdM.Good a') (hn : a'.n = a.n) (hN : a'.N = a.N) (hk : Kept G w0 w1) (c p h : Int) :
    Blk (put4 w1 (s + 1 + 1) (.int .i64 c) (.int .i64 p) (.int .i64 h) (.slice none 0 0)) (s + 1 + 1) 27 [.int .i64 c, .int .i64 p, .int .i64 h, .slice none 0 0] ∧
    DoPost G (sval gT cT gB cB gH cH a) w (⟨c, p, h, []⟩, a') (.returned (.agg #[.int .i64 c, .int .i64 p, .int .i64 h, .slice none 0 0])) (put4 w1 (s + 1 + 1) (.int .i64 c) (.int .i64 p) (.int .i64 h) (.slice none 0 0)) := by
  have hlt := H.lt
  have h2 : ∀ k, G k → ¬ k = s + 1 + 1 := fun k hk e => by have := hlt k hk; omega
  have hsz := H.sz
  refine ⟨put4_blk (H.rb.kept hk fun x => h2 _ x rfl), ⟨_, rfl, rev_none _ _ _ _ _⟩, ⟨hg, gT, cT, gB, cB, gH, cH, q, cp, ?_, smKeep hs (put4_kept w1 (s + 1 + 1) _ _ _ _) (h2 _ hs.inG.1) (h2 _ hs.inG.2.1) (h2 _ hs.inG.2.2) fun i hi => h2 _ (hs.qG i hi)⟩, ?_⟩
  · unfold sval; rw [hn, hN]
  · exact (H.gr.kept.trans hk).then (put4_kept w1 (s + 1 + 1) _ _ _ _) fun k hk e => by have e : k = s + 1 + 1 := e; omega
/-- An error. -/
theorem Bx.bad (H : Bx w w0 G gT cT gB cB gH cH q cp a s o D dl dc) (hg : MdM.Good a) (hk : Grow w0 w1) (c : Int) :
    Blk (put4 w1 (s + 1 + 1) (.int .i64 c) (.int .i64 0) (.int .i64 0) (.slice none 0 0)) (s + 1 + 1) 27 [.int .i64 c, .int .i64 0, .int .i64 0, .slice none 0 0] ∧
    DoPost G (sval gT cT gB cB gH cH a) w (err c, a) (.returned (.agg #[.int .i64 c, .int .i64 0, .int .i64 0, .slice none 0 0])) (put4 w1 (s + 1 + 1) (.int .i64 c) (.int .i64 0) (.int .i64 0) (.slice none 0 0)) :=
  H.fin (H.sm.kept hk fun _ _ x => x) hg rfl rfl hk.kept c 0 0
section
variable (H : Bx w w0 G gT cT gB cB gH cH q cp a s o D dl dc)
include H
theorem Bx.o0 : w0.cell? ⟨s + 1, 0, none⟩ = some (.int .i64 o.k) := H.ob.cell 0
theorem Bx.o1 : w0.cell? ⟨s + 1, 1, none⟩ = some (.int .i64 o.p) := H.ob.cell 1
theorem Bx.o2 : w0.cell? ⟨s + 1, 2, none⟩ = some (.int .i64 o.h) := H.ob.cell 2
theorem Bx.o3 : w0.cell? ⟨s + 1, 3, none⟩ = some (.int .i64 o.o) := H.ob.cell 3
theorem Bx.o4 : w0.cell? ⟨s + 1, 4, none⟩ = some (.int .i64 o.n) := H.ob.cell 4
theorem Bx.o5 : w0.cell? ⟨s + 1, 5, none⟩ = some (.slice D dl dc) := H.ob.cell 5
theorem Bx.resK (hk : Kept G w0 w1) : w1.cell? ⟨s + 1 + 1, 0, none⟩ = some (.int .i64 0) ∧ w1.cell? ⟨s + 1 + 1, 1, none⟩ = some (.int .i64 0) ∧ w1.cell? ⟨s + 1 + 1, 2, none⟩ = some (.int .i64 0) ∧ w1.cell? ⟨s + 1 + 1, 3, none⟩ = some (.slice none 0 0) ∧ ∀ j, w1.frozen? ⟨s + 1 + 1, j, none⟩ = false := by
  have hb := H.rb.kept hk fun x => by have := H.lt _ x; omega
  exact ⟨hb.cell 0, hb.cell 1, hb.cell 2, hb.cell 3, hb.frozen⟩
theorem Bx.finD (hg : MdM.Good a) (hk : Grow w0 w1) {A : Option Addr} {n cap : Nat} {zs : List Int} (hz : Sl w1 w1.heap.size .u8 A n zs) (hA : 0 < n → ∀ x, A = some x → w.heap.size ≤ x.block ∧ x.block ≠ s + 1 + 1) :
    Blk (put4 w1 (s + 1 + 1) (.int .i64 0) (.int .i64 0) (.int .i64 0) (.slice A n cap)) (s + 1 + 1) 27 [.int .i64 0, .int .i64 0, .int .i64 0, .slice A n cap] ∧
    DoPost G (sval gT cT gB cB gH cH a) w (⟨0, 0, 0, zs⟩, a) (.returned (.agg #[.int .i64 0, .int .i64 0, .int .i64 0, .slice A n cap])) (put4 w1 (s + 1 + 1) (.int .i64 0) (.int .i64 0) (.int .i64 0) (.slice A n cap)) := by
  have hlt := H.lt
  have h2 : ∀ k, G k → ¬ k = s + 1 + 1 := fun k hk e => by have := hlt k hk; omega
  have hsz := H.sz
  have hs : SAt w1 G (sval gT cT gB cB gH cH a) a := ⟨hg, gT, cT, gB, cB, gH, cH, q, cp, rfl, H.sm.kept hk fun _ _ x => x⟩
  refine ⟨put4_blk (H.rb.kept hk id), ⟨_, rfl, A, n, cap, rfl, ⟨hz.1, fun hn => ?_⟩, fun hn x e => (hA hn x e).1⟩, hs.kept (put4_kept w1 (s + 1 + 1) _ _ _ _) h2, ?_⟩
  · obtain ⟨b, off, e, hb, hc⟩ := hz.2 hn
    exact ⟨b, off, e, Nat.lt_of_lt_of_le hb (put4_kept w1 (s + 1 + 1) _ _ _ _).size, fun j hj => (put4_kept w1 (s + 1 + 1) _ _ _ _).cellN (hc j hj) (hA hn _ e).2⟩
  · exact (Grow.kept (H.gr.trans hk)).then (put4_kept w1 (s + 1 + 1) _ _ _ _) fun k hk e => by have e : k = s + 1 + 1 := e; omega
end
/-! ### The least page that is not there -/
theorem gap_le (a : Md) : a.gap ≤ a.n := HdM.lst_le _ _
theorem gap_free {p : Nat} (h : a.gap = p) (hp : p < a.n) : a.T p = false := by
  have := HdM.lst_at (fun i => if a.T i then 0 else -1) a.n (by show a.gap < a.n; omega)
  have e : lst (fun i => if a.T i then 0 else -1) a.n = p := h
  rw [e] at this
  cases e2 : a.T p with
  | false => rfl
  | true => rw [e2] at this; simp at this
/-! ### '[]byte(s)' -/
end
end Go.Proofs.YtbnkpnllgoghnaaGreat.MdD

namespace Go.Proofs.YtbnkpnllgoghnaaGreat.PmI
open Go.ChangeShapes Go.WideShapes Go.ChangeAt Go.RowKit
open Go.Proofs.YtbnkpnllgoghnaaGreat.Mem Go.Proofs.YtbnkpnllgoghnaaGreat.Blk Go.Proofs.YtbnkpnllgoghnaaGreat.Cells Go.Proofs.YtbnkpnllgoghnaaGreat.Orow Go.Proofs.YtbnkpnllgoghnaaGreat.GrC Go.Proofs.YtbnkpnllgoghnaaGreat.MdM Go.Proofs.YtbnkpnllgoghnaaGreat.MdC Go.Proofs.YtbnkpnllgoghnaaGreat.MdD Go.Proofs.YtbnkpnllgoghnaaGreat.PmC Go.Proofs.YtbnkpnllgoghnaaGreat.Stages
open Go.Proofs.YtbnkpnllgoghnaaGreat.HdM (lst hnd cnt sum lst_eq hnd_at hnd_none hnd_cases cnt_yes cnt_no cnt_le sum_le lst_at lst_le)
/-- What is told of a page that is looked for. -/
def codeOf (n : Nat) (T : Nat → Bool) (p : Int) : Int := if ¬ (0 ≤ p ∧ p < (n : Int)) then 1 else if T p.toNat = false then 2 else 0
section
variable {w w' : World} {F : Nat → Prop} {v : Value} {k : IntKind} {A AT AB AH : Option Addr} {n m cT cB cH nB nH b c : Nat} {T U : Nat → Bool} {L M : Nat → List Int} {s t : St} {f : Nat → Int}
theorem code_out {n : Nat} {T : Nat → Bool} {p : Int} (h : ¬ (0 ≤ p ∧ p < (n : Int))) : codeOf n T p = 1 := if_pos h
theorem code_in {n : Nat} {T : Nat → Bool} {p : Nat} (h : p < n) : codeOf n T (p : Int) = if T p = false then 2 else 0 := by
  unfold codeOf
  rw [if_neg (by omega), Int.toNat_natCast]
theorem code_zero {n : Nat} {T : Nat → Bool} {p : Int} (h : codeOf n T p = 0) : ∃ q : Nat, p = (q : Int) ∧ q < n ∧ T q = true := by
  unfold codeOf at h
  split at h
  · cases h
  · rename_i hp
    split at h
    · cases h
    · rename_i hT
      have hp : 0 ≤ p ∧ p < (n : Int) := Decidable.not_not.1 hp
      exact ⟨p.toNat, (Int.toNat_of_nonneg hp.1).symm, by omega, by simpa using hT⟩
theorem find_any (h : Flags w AT n T) (p : Int) : Calls Tryz.prog 135 #[.agg #[.slice AT n cT, .slice AB nB cB, .slice AH nH cH], .int .i64 p] w fun e w' => e = .returned (.int .i64 (codeOf n T p)) ∧ Grow w w' := by
  have hb := Blk.new w 64 [.slice AT n cT, .slice AB nB cB, .slice AH nH cH]
  have s0 := hb.cell 0
  have HG : Hid (Grow w (w.alloc (.cells #[.slice AT n cT, .slice AB nB cB, .slice AH nH cH] 64))) := (Kept.refl _ _).alloc _
  clear hb
  simp only [List.getElem?_cons_zero] at s0
  by_cases hp : 0 ≤ p ∧ p < (n : Int)
  · obtain ⟨i, rfl⟩ := Int.eq_ofNat_of_zero_le hp.1
    have hi : i < n := by omega
    have hiz : (i : Int) < (n : Int) := hp.2
    obtain ⟨b, off, rfl, hc⟩ := h (by omega)
    have r1 := HG.out.cellN (hc i hi) id
    rw [code_in hi]
    clear hp hc h hi
    generalize T i = x at r1 ⊢
    cases x
    · rw [if_pos rfl]
      go_enter Tryz.func135, Tryz.ntmps135
      go_upto_region 1 with (fail)
      generalize w.alloc (.cells #[.slice (some ⟨b, off, none⟩) n cT, .slice AB nB cB, .slice AH nH cH] 64) = w0 at *
      go_wp2
      go_ret
      exact ⟨rfl, HG.out⟩
    · rw [if_neg (by simp)]
      go_enter Tryz.func135, Tryz.ntmps135
      go_upto_region 1 with (fail)
      generalize w.alloc (.cells #[.slice (some ⟨b, off, none⟩) n cT, .slice AB nB cB, .slice AH nH cH] 64) = w0 at *
      go_wp2
      go_ret
      exact ⟨rfl, HG.out⟩
  · rw [code_out hp]
    by_cases h0 : p < 0
    · clear hp h
      go_enter Tryz.func135, Tryz.ntmps135
      go_wp2
      go_ret
      exact ⟨rfl, HG.out⟩
    · have h1 : 0 ≤ p := by omega
      have h2 : (n : Int) ≤ p := by omega
      clear hp h h0
      go_enter Tryz.func135, Tryz.ntmps135
      go_upto_region 1 with (fail)
      generalize w.alloc (.cells #[.slice AT n cT, .slice AB nB cB, .slice AH nH cH] 64) = w0 at *
      go_wp2
      go_ret
      exact ⟨rfl, HG.out⟩
/-- The least page that is not there, or -1. -/
def least (n : Nat) (T : Nat → Bool) : Int := if lst (fun i => if T i then 0 else -1) n = n then -1 else (lst (fun i => if T i then 0 else -1) n : Int)
theorem least_at {j : Nat} (h : ∀ i, i < j → T i = true) (hj : j < n) (ht : T j = false) : least n T = (j : Int) := by
  have e : lst (fun i => if T i then 0 else -1) n = j := lst_eq (fun i hi => by show (if T i then (0 : Int) else -1) ≠ -1; rw [h i hi]; decide) (.inr ⟨hj, by show (if T j then (0 : Int) else -1) = -1; rw [ht]; rfl⟩)
  unfold least
  rw [e, if_neg (by omega)]
theorem least_none (h : ∀ i, i < n → T i = true) : least n T = -1 := by
  unfold least
  rw [if_pos]
  rcases Nat.lt_or_ge (lst (fun i => if T i then (0 : Int) else -1) n) n with h1 | h1
  · have := lst_at (fun i => if T i then (0 : Int) else -1) n h1
    simp only [h _ h1] at this
    exact absurd this (by decide)
  · have := lst_le (fun i => if T i then (0 : Int) else -1) n
    omega
theorem least_any (h : OR w b 4 1 c n (tcell T)) (hn : n ≤ 1000) : Calls Tryz.prog 170 #[.slice (some ⟨b, 0, none⟩) n c] w fun e w' => e = .returned (.int .i64 (least n T)) ∧ w = w' := by
  have HO := Lib.hid h
  have HN := Lib.hid hn
  have hnz : (n : Int) ≤ 1000 := by omega
  clear h hn
  go_enter Tryz.func170, Tryz.ntmps170
  go_wp2
  go_step3
  go_wp2
  go_step3
  go_wp2
  go_loopg [3, 8] n (fun gx r i wr => ∃ j : Nat, j + gx = n ∧ i = .int .i64 (j : Int) ∧ r = .int .i64 (-1) ∧ w = wr ∧ ∀ t, t < j → T t = true)
  case atStart => exact ⟨0, by omega, rfl, rfl, rfl, fun t h => absurd h (Nat.not_lt_zero t)⟩
  case round =>
    obtain ⟨j, hg, rfl, rfl, rfl, hno⟩ := hrel
    have HG := Lib.hid hg
    have HNO := Lib.hid hno
    clear hg hno
    by_cases hj : j < n
    · have hjz : (j : Int) < (n : Int) := by omega
      have r1 : w.cell? ⟨b, j, none⟩ = some (.bool (T j)) := HO.out.cell (by omega)
      cases hT : T j with
      | true =>
        have HT := Lib.hid hT
        rw [hT] at r1
        clear hT hj
        go_wp2
        go_roundg (gk - 1)
        case measure => have := HG.out; omega
        case rel => exact ⟨j + 1, by have := HG.out; omega, by go_num, rfl, rfl, fun t ht => by
          by_cases e : t = j
          · subst e; exact HT.out
          · exact HNO.out t (by omega)⟩
      | false =>
        have HE := Lib.hid (least_at HNO.out hj hT)
        rw [hT] at r1
        clear hT hj
        go_wp2
        rw [Exit.noGoto_ret]
        go_ret
        exact ⟨by rw [HE.out]; rfl, rfl⟩
    · obtain rfl : j = n := by have := HG.out; omega
      have HE := Lib.hid (least_none HNO.out)
      clear hj
      go_wp2
      rw [Exit.noGoto_ret]
      go_ret
      exact ⟨by rw [HE.out]; rfl, rfl⟩
theorem index_any (h : OR w b 3 1 c 6 (hcell f)) : Calls Tryz.prog 169 #[.slice (some ⟨b, 0, none⟩) 6 c, .int .i64 (-1)] w fun e w' => e = .returned (.int .i64 (hnd f 6)) ∧ w = w' := by
  have HO := Lib.hid h
  clear h
  go_enter Tryz.func169, Tryz.ntmps169
  go_wp2
  go_loopg [8] 6 (fun gx i wr => ∃ j : Nat, j + gx = 6 ∧ i = .int .i64 (j : Int) ∧ w = wr ∧ ∀ t, t < j → f t ≠ -1)
  case atStart => exact ⟨0, by omega, rfl, rfl, fun t h => absurd h (Nat.not_lt_zero t)⟩
  case round =>
    obtain ⟨j, hg, rfl, rfl, hno⟩ := hrel
    have HG := Lib.hid hg
    have HNO := Lib.hid hno
    clear hg hno
    by_cases hj : j < 6
    · have hjz : (j : Int) < 6 := by omega
      have r1 := hcell_get HO.out hj
      by_cases hx : f j = -1
      · have HE := Lib.hid (hnd_at HNO.out hj hx)
        rw [hx] at r1
        clear hx hj
        go_wp2
        go_ret
        exact ⟨by rw [HE.out]; rfl, rfl⟩
      · have HX := Lib.hid hx
        have hx2 : ((-1 : Int) == f j) = false := by simpa using fun e => hx e.symm
        clear hx hj
        generalize f j = x at r1 hx2
        go_wp2
        go_roundg (gk - 1)
        case measure => have := HG.out; omega
        case rel => exact ⟨j + 1, by have := HG.out; omega, by go_num, rfl, fun t ht => by
          by_cases e : t = j
          · subst e; exact HX.out
          · exact HNO.out t (by omega)⟩
    · obtain rfl : j = 6 := by have := HG.out; omega
      have HE := Lib.hid (hnd_none HNO.out)
      clear hj
      go_wp2
      go_ret
      exact ⟨by rw [HE.out]; rfl, rfl⟩
/-- The page of a handle; -1. -/
def pg (f : Nat → Int) (h : Int) : Int := if 0 ≤ h ∧ h < 6 then f h.toNat else -1
theorem pg_held {a : Md} {kc : Nat} (hk : kc < a.N) (h : Int) : pg (a.H kc) h = a.held (kc : Int) h := by
  unfold pg Md.held
  by_cases hh : 0 ≤ h ∧ h < 6
  · rw [if_pos hh, if_pos ⟨by omega, hh⟩, Int.toNat_natCast]
  · rw [if_neg hh, if_neg fun x => hh x.2]
theorem pageOf_any (ho : OR w b 3 1 c 6 (hcell f)) (h : Int) : Calls Tryz.prog 172 #[.slice (some ⟨b, 0, none⟩) 6 c, .int .i64 h] w fun e w' => e = .returned (.int .i64 (pg f h)) ∧ w = w' := by
  unfold pg
  by_cases hh : 0 ≤ h ∧ h < 6
  · obtain ⟨i, rfl⟩ := Int.eq_ofNat_of_zero_le hh.1
    have hiz : (i : Int) < 6 := hh.2
    have r1 := hcell_get ho (show i < 6 by omega)
    rw [if_pos hh, Int.toNat_natCast]
    clear hh ho
    go_enter Tryz.func172, Tryz.ntmps172
    go_wp2
    go_ret
    exact ⟨rfl, rfl⟩
  · rw [if_neg hh]
    by_cases h0 : h < 0
    · clear hh ho
      go_enter Tryz.func172, Tryz.ntmps172
      go_wp2
      go_ret
      exact ⟨rfl, rfl⟩
    · have h1 : 0 ≤ h := by omega
      have h2 : 6 ≤ h := by omega
      clear hh ho h0
      go_enter Tryz.func172, Tryz.ntmps172
      go_wp2
      go_ret
      exact ⟨rfl, rfl⟩
/-- So many bytes from a place on lie in a page. -/
def fits (o n : Int) : Prop := 0 ≤ o ∧ 0 ≤ n ∧ n ≤ 16 - o
instance (o n : Int) : Decidable (fits o n) := inferInstanceAs (Decidable (_ ∧ _))
theorem within_any (o n : Int) (h63 : o ≤ 9223372036854775807) : Calls Tryz.prog 191 #[.int .i64 o, .int .i64 n] w fun e w' => e = .returned (.bool (decide (fits o n))) ∧ w = w' := by
  by_cases h0 : 0 ≤ o
  · by_cases h1 : 0 ≤ n
    · by_cases h2 : n ≤ 16 - o
      · rw [decide_eq_true (p := fits o n) ⟨h0, h1, h2⟩]
        go_enter Tryz.func191, Tryz.ntmps191
        go_wp2
        go_ret
        exact ⟨rfl, rfl⟩
      · have h3 : 16 - o < n := by omega
        rw [decide_eq_false (fun x : fits o n => h2 x.2.2)]
        go_enter Tryz.func191, Tryz.ntmps191
        go_wp2
        go_ret
        exact ⟨rfl, rfl⟩
    · have h3 : n < 0 := by omega
      rw [decide_eq_false (fun x : fits o n => h1 x.2.1)]
      clear h1
      go_enter Tryz.func191, Tryz.ntmps191
      go_wp2
      go_ret
      exact ⟨rfl, rfl⟩
  · have h3 : o < 0 := by omega
    rw [decide_eq_false (fun x : fits o n => h0 x.1)]
    clear h0
    go_enter Tryz.func191, Tryz.ntmps191
    go_wp2
    go_ret
    exact ⟨rfl, rfl⟩
/-- The page that a call reaches, and a code. -/
def reach (p o n : Int) : Int × Int := if p = -1 then (-1, 5) else if ¬ fits o n then (-1, 6) else (p, 0)
theorem code_any (w : World) (c : Int) : Calls Tryz.prog 76 #[.int .i64 c] w fun e w' => e = .returned (.agg #[.int .i64 c, .int .i64 0, .int .i64 0, .slice none 0 0]) ∧ Grow w w' := by
  go_enter Tryz.func76, Tryz.ntmps76
  go_wp2
  exact ret_res rfl rfl (Blk.new w 27 [.int .i64 c, .int .i64 0, .int .i64 0, .slice none 0 0]) rfl ⟨rfl, (Kept.refl _ _).alloc _⟩
theorem reach_any {b c : Nat} {x : MdOp} {D : Value} (ho : OR w b 3 1 c 6 (hcell f)) (h63 : x.o ≤ 9223372036854775807) (n : Int) : Calls Tryz.prog 171 #[.slice (some ⟨b, 0, none⟩) 6 c, .agg #[.int .i64 x.k, .int .i64 x.p, .int .i64 x.h, .int .i64 x.o, .int .i64 x.n, D], .int .i64 n] w fun e w' => e = .returned (.tuple #[.int .i64 (reach (pg f x.h) x.o n).1, .int .i64 (reach (pg f x.h) x.o n).2]) ∧ Grow w w' := by
  have hb := Blk.new w 30 [.int .i64 x.k, .int .i64 x.p, .int .i64 x.h, .int .i64 x.o, .int .i64 x.n, D]
  have o2 := hb.cell 2
  have o3 := hb.cell 3
  have HG : Hid (Grow w (w.alloc (.cells #[.int .i64 x.k, .int .i64 x.p, .int .i64 x.h, .int .i64 x.o, .int .i64 x.n, D] 30))) := (Kept.refl _ _).alloc _
  have HO := Lib.hid (ho.kept HG.out id)
  simp only [List.getElem?_cons_zero, List.getElem?_cons_succ] at o2 o3
  have HW := Lib.hid fun (w : World) => within_any (w := w) x.o n h63
  have HPO := Lib.hid (pageOf_any HO.out x.h)
  clear hb ho h63 HO
  unfold reach
  generalize pg f x.h = y at HPO ⊢
  by_cases hp : y = -1
  · subst hp
    rw [if_pos rfl]
    go_enter Tryz.func171, Tryz.ntmps171
    go_upto_region 1 with (fail)
    generalize w.alloc (.cells #[.int .i64 x.k, .int .i64 x.p, .int .i64 x.h, .int .i64 x.o, .int .i64 x.n, D] 30) = w0 at *
    go_wp2_with (go_at_call 172; (with_reducible refine HPO.out.mono ?_); rintro e w' ⟨rfl, rfl⟩)
    go_ret2
    exact ⟨rfl, HG.out⟩
  · rw [if_neg hp]
    have hq : (y == -1) = false := by simpa using hp
    clear hp
    by_cases hf : fits x.o n
    · have hd : decide (fits x.o n) = true := decide_eq_true hf
      rw [if_neg (fun y => y hf)]
      clear hf
      go_enter Tryz.func171, Tryz.ntmps171
      go_upto_region 1 with (fail)
      generalize w.alloc (.cells #[.int .i64 x.k, .int .i64 x.p, .int .i64 x.h, .int .i64 x.o, .int .i64 x.n, D] 30) = w0 at *
      go_wp2_with (first
        | (go_at_call 172; (with_reducible refine HPO.out.mono ?_); rintro e w' ⟨rfl, rfl⟩)
        | (go_at_call 191; (with_reducible refine (HW.out _).mono ?_); rintro e w' ⟨rfl, rfl⟩; rw [hd]))
      go_ret2
      exact ⟨rfl, HG.out⟩
    · have hd : decide (fits x.o n) = false := decide_eq_false hf
      rw [if_pos hf]
      clear hf
      go_enter Tryz.func171, Tryz.ntmps171
      go_upto_region 1 with (fail)
      generalize w.alloc (.cells #[.int .i64 x.k, .int .i64 x.p, .int .i64 x.h, .int .i64 x.o, .int .i64 x.n, D] 30) = w0 at *
      go_wp2_with (first
        | (go_at_call 172; (with_reducible refine HPO.out.mono ?_); rintro e w' ⟨rfl, rfl⟩)
        | (go_at_call 191; (with_reducible refine (HW.out _).mono ?_); rintro e w' ⟨rfl, rfl⟩; rw [hd]))
      go_ret2
      exact ⟨rfl, HG.out⟩
end
end Go.Proofs.YtbnkpnllgoghnaaGreat.PmI

namespace Go.Proofs.YtbnkpnllgoghnaaGreat.PmM
open Go.ChangeShapes Go.WideShapes Go.ChangeAt Go.RowKit
open Go.Proofs.YtbnkpnllgoghnaaGreat.Mem Go.Proofs.YtbnkpnllgoghnaaGreat.Blk Go.Proofs.YtbnkpnllgoghnaaGreat.Cells Go.Proofs.YtbnkpnllgoghnaaGreat.Orow Go.Proofs.YtbnkpnllgoghnaaGreat.MdM Go.Proofs.YtbnkpnllgoghnaaGreat.PmC Go.Proofs.YtbnkpnllgoghnaaGreat.PmI Go.Proofs.YtbnkpnllgoghnaaGreat.Stages
/-- A truth is told, and nothing that was there has turned. -/
def Tells (p : Prop) (w : World) (e : Ending) (w' : World) : Prop := (∃ b, e = .returned (.bool b) ∧ (b = true ↔ p)) ∧ Grow w w'
theorem Tells.no {p : Prop} {w w' : World} (h : ¬ p) (hg : Grow w w') : Tells p w (.returned (.bool false)) w' := ⟨⟨false, rfl, fun x => Bool.noConfusion x, fun x => absurd x h⟩, hg⟩
theorem Tells.yes {p : Prop} {w w' : World} (h : p) (hg : Grow w w') : Tells p w (.returned (.bool true)) w' := ⟨⟨true, rfl, fun _ => h, fun _ => rfl⟩, hg⟩
section
variable {w w' : World} {AT AB AH : Option Addr} {cT cB cH : Nat} {s : St}
theorem okP_code (s : St) (x : Int) : s.okP x ↔ x = -1 ∨ codeOf s.nT s.T x = 0 := by
  unfold St.okP
  constructor
  · rintro (e | ⟨h1, h2⟩)
    · exact .inl e
    · right
      unfold codeOf
      rw [if_neg (fun y => y h1), if_neg (by rw [h2]; simp)]
  · rintro (e | h)
    · exact .inl e
    · right
      obtain ⟨q, rfl, hq, hT⟩ := code_zero h
      exact ⟨by omega, by rw [Int.toNat_natCast]; exact hT⟩
theorem all_zero {l : List Int} (h : ∀ t, t < l.length → l.getD t 0 = 0) : ∀ c ∈ l, c = 0 := fun c hc => by
  obtain ⟨i, hi, rfl⟩ := List.getElem_of_mem hc
  have := h i hi
  rw [List.getD_eq_getElem?_getD, List.getElem?_eq_getElem hi] at this
  exact this
theorem not_zero {l : List Int} {t : Nat} (ht : t < l.length) (h : l.getD t 0 ≠ 0) : ¬ ∀ c ∈ l, c = 0 := fun hz => by
  rw [List.getD_eq_getElem?_getD, List.getElem?_eq_getElem ht] at h
  exact h (hz _ (List.getElem_mem ht))
/-- A row of a slice of slices. -/
theorem lists_form {k : IntKind} {A : Option Addr} {n : Nat} {L : Nat → List Int} (h : Lists w k A n L) : ∃ b off, (0 < n → A = some ⟨b, off, none⟩) ∧ ∀ i, i < n → ∃ A' c, w.cell? ⟨b, off + i, none⟩ = some (.slice A' (L i).length c) ∧ Sl w w.heap.size k A' (L i).length (L i) := by
  by_cases h0 : 0 < n
  · obtain ⟨b, off, e, h⟩ := h h0
    exact ⟨b, off, fun _ => e, h⟩
  · exact ⟨0, 0, fun x => absurd x h0, fun i hi => by omega⟩
theorem flags_form {A : Option Addr} {n : Nat} {T : Nat → Bool} (h : Flags w A n T) : ∃ b off, (0 < n → A = some ⟨b, off, none⟩) ∧ ∀ i, i < n → w.cell? ⟨b, off + i, none⟩ = some (.bool (T i)) := by
  by_cases h0 : 0 < n
  · obtain ⟨b, off, e, h⟩ := h h0
    exact ⟨b, off, fun _ => e, h⟩
  · exact ⟨0, 0, fun x => absurd x h0, fun i hi => by omega⟩
set_option maxHeartbeats 4000000 in
theorem bodies_any (hp : Parts w AT cT AB cB AH cH s) (hn : s.nB = s.nT) (h60 : s.nB ≤ 60) : Calls Tryz.prog 128 #[stv AT cT AB cB AH cH s] w (Tells (∀ i, i < s.nB → s.okB i) w) := by
  unfold stv
  have hb := Blk.new w 64 [.slice AT s.nT cT, .slice AB s.nB cB, .slice AH s.nH cH]
  have s0 := hb.cell 0
  have s1 := hb.cell 1
  simp only [List.getElem?_cons_zero, List.getElem?_cons_succ] at s0 s1
  have HG9 : Hid (Grow w (w.alloc (.cells #[.slice AT s.nT cT, .slice AB s.nB cB, .slice AH s.nH cH] 64))) := (Kept.refl _ _).alloc _
  obtain ⟨fb, fo, fe, hf⟩ := flags_form (hp.T.grow HG9.out)
  obtain ⟨rb, ro, re, hr⟩ := lists_form (hp.B.grow HG9.out)
  have HF := Lib.hid fe
  have HR := Lib.hid re
  have HFC := Lib.hid hf
  have HRC := Lib.hid hr
  have hnz : (s.nB : Int) ≤ 60 := by omega
  rw [← hn] at s0 HF HFC
  rw [← hn]
  have HG0 : Hid (Grow w (w.alloc (.cells #[.slice AT s.nB cT, .slice AB s.nB cB, .slice AH s.nH cH] 64))) := (Kept.refl _ _).alloc _
  rw [← hn] at s1 HRC
  clear hb hp hn fe hf re hr h60 HG9
  go_enter Tryz.func128, Tryz.ntmps128
  go_upto_region 1 with (fail)
  generalize w.alloc (.cells #[.slice AT s.nB cT, .slice AB s.nB cB, .slice AH s.nH cH] 64) = w0 at *
  go_wp2
  go_step3
  go_wp2
  go_step3
  go_wp2
  go_loopg [3, 11] s.nB (fun gx v i wr => ∃ j : Nat, j + gx = s.nB ∧ i = .int .i64 (j : Int) ∧ v = .bool true ∧ w0 = wr ∧ ∀ t, t < j → s.okB t)
  case atStart => exact ⟨0, by omega, rfl, rfl, rfl, fun t h => absurd h (Nat.not_lt_zero t)⟩
  case round =>
    obtain ⟨j, hg, rfl, rfl, rfl, hok⟩ := hrel
    have HG := Lib.hid hg
    have HOK := Lib.hid hok
    clear hg hok
    by_cases hj : j < s.nB
    · have hjz : (j : Int) < (s.nB : Int) := by omega
      have HJ := Lib.hid hj
      obtain rfl := HF.out (by omega)
      obtain rfl := HR.out (by omega)
      have f1 := HFC.out j hj
      obtain ⟨A', c', r1, hsl⟩ := HRC.out j hj
      by_cases h16 : (s.B j).length = 16
      · rw [h16] at r1 hsl
        cases hT : s.T j with
        | true =>
          have HE : Hid (s.okB j) := ⟨h16, fun x => by rw [hT] at x; cases x⟩
          rw [hT] at f1
          clear hj h16 hT hsl
          go_wp2
          go_roundg (gk - 1)
          case measure => have := HG.out; have := HJ.out; omega
          case rel => exact ⟨j + 1, by have := HG.out; have := HJ.out; omega, by go_num, rfl, rfl, fun t ht => by
            by_cases e : t = j
            · subst e; exact HE.out
            · exact HOK.out t (by omega)⟩
        | false =>
          obtain ⟨bb, oo, rfl, _, hc⟩ := hsl.at_ (by omega)
          have HC := Lib.hid hc
          have H16 := Lib.hid h16
          have HT := Lib.hid hT
          rw [hT] at f1
          clear hj h16 hT hsl hc
          go_wp2
          go_loopg [3, 28] 16 (fun gx v i wr => ∃ k : Nat, k + gx = 16 ∧ i = .int .i64 (k : Int) ∧ v = .bool true ∧ w0 = wr ∧ ∀ t, t < k → (s.B j).getD t 0 = 0)
          case atStart => exact ⟨0, by omega, rfl, rfl, rfl, fun t h => absurd h (Nat.not_lt_zero t)⟩
          case round =>
            obtain ⟨k, hg, rfl, rfl, rfl, hz⟩ := hrel
            have HK := Lib.hid hg
            have HZ := Lib.hid hz
            clear hg hz
            by_cases hk : k < 16
            · have hkz : (k : Int) < 16 := by omega
              have e1 := HC.out k hk
              by_cases h0 : (s.B j).getD k 0 = 0
              · have H0 := Lib.hid h0
                rw [h0] at e1
                clear h0 hk
                go_wp2
                go_roundg (gk - 1)
                case measure => have := HK.out; omega
                case rel => exact ⟨k + 1, by have := HK.out; omega, by go_num, rfl, rfl, fun t ht => by
                  by_cases e : t = k
                  · subst e; exact H0.out
                  · exact HZ.out t (by omega)⟩
              · have HB : Hid (¬ ∀ i, i < s.nB → s.okB i) := fun x => not_zero (by rw [H16.out]; omega) h0 ((x j HJ.out).2 HT.out)
                have hne : ((s.B j).getD k 0 != 0) = true := by simpa using h0
                generalize (s.B j).getD k 0 = z at e1 hne
                clear h0 hk
                go_wp2
                rw [Exit.noGoto_ret]
                go_ret
                exact Tells.no HB.out (HG0.out)
            · obtain rfl : k = 16 := by have := HK.out; omega
              have HE : Hid (s.okB j) := ⟨H16.out, fun _ => all_zero fun t ht => HZ.out t (by rw [H16.out] at ht; omega)⟩
              clear hk
              go_wp2
              go_roundg (s.nB - (j + 1))
              case measure => have := HG.out; have := HJ.out; omega
              case rel => exact ⟨j + 1, by have := HG.out; have := HJ.out; omega, by go_num, rfl, rfl, fun t ht => by
                by_cases e : t = j
                · subst e; exact HE.out
                · exact HOK.out t (by omega)⟩
      · have HB : Hid (¬ ∀ i, i < s.nB → s.okB i) := fun x => h16 (x j hj).1
        have hne : (((s.B j).length : Int) != 16) = true := by simp; omega
        generalize (s.B j).length = m at r1 hne hsl h16
        have hm : ((m : Int) == 16) = false := by simp; omega
        clear hj h16 hsl
        go_wp2
        try rw [Exit.noGoto_ret]
        go_ret
        exact Tells.no HB.out (HG0.out)
    · obtain rfl : j = s.nB := by have := HG.out; omega
      clear hj
      go_wp2
      rw [Exit.noGoto_ret]
      go_ret
      exact Tells.yes HOK.out (HG0.out)
set_option maxHeartbeats 4000000 in
theorem handles_any (hp : Parts w AT cT AB cB AH cH s) (h60 : s.nH ≤ 60) : Calls Tryz.prog 129 #[stv AT cT AB cB AH cH s] w (Tells (∀ i, i < s.nH → s.okH i) w) := by
  unfold stv
  have hb := Blk.new w 64 [.slice AT s.nT cT, .slice AB s.nB cB, .slice AH s.nH cH]
  have HG0 : Hid (Grow w (w.alloc (.cells #[.slice AT s.nT cT, .slice AB s.nB cB, .slice AH s.nH cH] 64))) := (Kept.refl _ _).alloc _
  have HFL := Lib.hid (hp.T.grow HG0.out)
  obtain ⟨rb, ro, re, hr⟩ := lists_form (hp.H.grow HG0.out)
  have HR := Lib.hid re
  have HRC := Lib.hid hr
  have HB0 := Lib.hid hb
  have hnz : (s.nH : Int) ≤ 60 := by omega
  clear hb hp re hr h60
  go_enter Tryz.func129, Tryz.ntmps129
  go_upto_region 1 with (fail)
  generalize w.alloc (.cells #[.slice AT s.nT cT, .slice AB s.nB cB, .slice AH s.nH cH] 64) = w0 at *
  generalize w.heap.size = sb at HB0 ⊢
  have s2 := HB0.out.cell 2
  simp only [List.getElem?_cons_zero, List.getElem?_cons_succ] at s2
  go_wp2
  clear s2
  go_loopg [10] s.nH (fun gx i wr => ∃ j : Nat, j + gx = s.nH ∧ i = .int .i64 (j : Int) ∧ Grow w0 wr ∧ ∀ t, t < j → s.okH t)
  case atStart => exact ⟨0, by omega, rfl, Kept.refl _ _, fun t h => absurd h (Nat.not_lt_zero t)⟩
  case round =>
    obtain ⟨j, hg, rfl, hgr, hok⟩ := hrel
    have HG := Lib.hid hg
    have HOK := Lib.hid hok
    have HGR := Lib.hid hgr
    clear hg hok hgr
    obtain ⟨wq, rfl⟩ : ∃ wq, wq = wr := ⟨_, rfl⟩
    by_cases hj : j < s.nH
    · have hjz : (j : Int) < (s.nH : Int) := by omega
      have HJ := Lib.hid hj
      obtain rfl := HR.out (by omega)
      obtain ⟨A', c', r0, hsl0⟩ := HRC.out j hj
      have r1 := HGR.out.cellN r0 id
      clear r0
      by_cases h6 : (s.H j).length = 6
      · rw [h6] at r1 hsl0
        obtain ⟨bb, oo, rfl, _, hc⟩ := hsl0.at_ (by omega)
        have HC := Lib.hid hc
        have H6 := Lib.hid h6
        clear hj h6 hsl0 hc
        go_wp2
        go_loopg [19] 6 (fun gx i wr => ∃ k : Nat, k + gx = 6 ∧ i = .int .i64 (k : Int) ∧ Grow w0 wr ∧ ∀ t, t < k → s.okP ((s.H j).getD t 0))
        case atStart => exact ⟨0, by omega, rfl, HGR.out, fun t h => absurd h (Nat.not_lt_zero t)⟩
        case round =>
          obtain ⟨k, hg, rfl, hgr2, hz⟩ := hrel
          have HK := Lib.hid hg
          have HZ := Lib.hid hz
          have HGR2 := Lib.hid hgr2
          clear hg hz hgr2
          obtain ⟨wp, rfl⟩ : ∃ wp, wp = wr := ⟨_, rfl⟩
          by_cases hk : k < 6
          · have hkz : (k : Int) < 6 := by omega
            have e1 := HGR2.out.cellN (HC.out k hk) id
            have q0 := (HB0.out.grow HGR2.out).cell 0
            have q1 := (HB0.out.grow HGR2.out).cell 1
            have q2 := (HB0.out.grow HGR2.out).cell 2
            simp only [List.getElem?_cons_zero, List.getElem?_cons_succ] at q0 q1 q2
            have HNB := Lib.hid fun (h : ¬ s.okP ((s.H j).getD k 0)) => (fun x => h ((x j HJ.out).2 k hk) : ¬ ∀ i, i < s.nH → s.okH i)
            have HNX := Lib.hid fun (h : s.okP ((s.H j).getD k 0)) => (fun t ht => by
              by_cases e : t = k
              · subst e; exact h
              · exact HZ.out t (by omega) : ∀ t, t < k + 1 → s.okP ((s.H j).getD t 0))
            have HFI := Lib.hid (find_any (w := wp) (cT := cT) (nB := s.nB) (cB := cB) (AB := AB) (AH := some ⟨rb, ro, none⟩) (nH := s.nH) (cH := cH) (HFL.out.grow HGR2.out) ((s.H j).getD k 0))
            generalize (s.H j).getD k 0 = z at e1 HNB HNX HFI
            by_cases hm : z = -1
            · have HOKZ := Lib.hid (HNX.out (.inl hm))
              subst hm
              clear hk HNB HNX
              go_wp2
              go_roundg (gk - 1)
              case measure => have := HK.out; omega
              case rel => exact ⟨k + 1, by have := HK.out; omega, by go_num, HGR2.out, HOKZ.out⟩
            · have hmb : (z != -1) = true := by simpa using hm
              have hmc : (z == -1) = false := by simpa using hm
              by_cases hco : codeOf s.nT s.T z = 0
              · have HOKZ := Lib.hid (HNX.out ((okP_code _ _).2 (.inr hco)))
                rw [hco] at HFI
                clear hk HNB HNX hm hco
                go_wp2_with (go_at_call 135; (with_reducible refine HFI.out.mono ?_); rintro e wf ⟨rfl, hgf⟩; have HGF := Lib.hid (HGR2.out.trans hgf); clear hgf)
                go_roundg (gk - 1)
                case measure => have := HK.out; omega
                case rel => exact ⟨k + 1, by have := HK.out; omega, by go_num, HGF.out, HOKZ.out⟩
              · have HBAD := Lib.hid (HNB.out fun x => by
                  rcases (okP_code _ _).1 x with e | e
                  · exact hm e
                  · exact hco e)
                have hcb : (codeOf s.nT s.T z != 0) = true := by simpa using hco
                have hcc : (codeOf s.nT s.T z == 0) = false := by simpa using hco
                generalize codeOf s.nT s.T z = cz at HFI hcb hcc
                clear hk HNB HNX hm hco
                go_wp2_with (go_at_call 135; (with_reducible refine HFI.out.mono ?_); rintro e wf ⟨rfl, hgf⟩; have HGF := Lib.hid (HGR2.out.trans hgf); clear hgf)
                go_ret
                exact Tells.no HBAD.out (HG0.out.trans HGF.out)
          · obtain rfl : k = 6 := by have := HK.out; omega
            have HE : Hid (s.okH j) := ⟨H6.out, HZ.out⟩
            clear hk
            go_wp2
            go_roundg (s.nH - (j + 1))
            case measure => have := HG.out; have := HJ.out; omega
            case rel => exact ⟨j + 1, by have := HG.out; have := HJ.out; omega, by go_num, HGR2.out, fun t ht => by
              by_cases e : t = j
              · subst e; exact HE.out
              · exact HOK.out t (by omega)⟩
      · have HB : Hid (¬ ∀ i, i < s.nH → s.okH i) := fun x => h6 (x j hj).1
        have hne : (((s.H j).length : Int) != 6) = true := by simp; omega
        have hm : (((s.H j).length : Int) == 6) = false := by simp; omega
        generalize (s.H j).length = m at r1 hne hm hsl0 h6
        clear hj h6 hsl0
        go_wp2
        go_ret
        exact Tells.no HB.out (HG0.out.trans HGR.out)
    · obtain rfl : j = s.nH := by have := HG.out; omega
      clear hj
      go_wp2
      go_ret
      exact Tells.yes HOK.out (HG0.out.trans HGR.out)
set_option maxHeartbeats 4000000 in
theorem may_any (hp : Parts w AT cT AB cB AH cH s) (hf : s.few) : Calls Tryz.prog 75 #[stv AT cT AB cB AH cH s] w (Tells (s.may) w) := by
  have hb := Blk.new w 64 [.slice AT s.nT cT, .slice AB s.nB cB, .slice AH s.nH cH]
  have HG0 : Hid (Grow w (w.alloc (.cells #[.slice AT s.nT cT, .slice AB s.nB cB, .slice AH s.nH cH] 64))) := (Kept.refl _ _).alloc _
  have HP := Lib.hid fun (n : Nat) => hp.grow (HG0.out.drewN n)
  have s0 := hb.cell 0
  have s1 := hb.cell 1
  have s2 := hb.cell 2
  simp only [List.getElem?_cons_zero, List.getElem?_cons_succ] at s0 s1 s2
  have HF := Lib.hid hf
  have htz : (s.nT : Int) ≤ 60 := by have := hf.nT; omega
  have hbz : (s.nB : Int) ≤ 60 := by have := hf.nB; omega
  have hhz : (s.nH : Int) ≤ 8 := by have := hf.nH; omega
  clear hb hp hf
  by_cases hr : (1 ≤ s.nT ∧ s.nT ≤ 48) ∧ 1 ≤ s.nH ∧ s.nH ≤ 6
  · by_cases he : s.nB = s.nT
    · have HE := Lib.hid he
      have HRG := Lib.hid hr
      have h1 : 1 ≤ (s.nT : Int) := by omega
      have h2 : (s.nT : Int) ≤ 48 := by omega
      have h3 : 1 ≤ (s.nH : Int) := by omega
      have h4 : (s.nH : Int) ≤ 6 := by omega
      have h5 : ((s.nB : Int) == (s.nT : Int)) = true := by simp; omega
      have HB := Lib.hid fun (w : World) (hq : Parts w AT cT AB cB AH cH s) => bodies_any hq HE.out (by have := HF.out.nB; omega)
      have HH := Lib.hid fun (w : World) (hq : Parts w AT cT AB cB AH cH s) => handles_any hq (by have := HF.out.nH; omega)
      clear hr he
      unfold stv at *
      go_enter Tryz.func75, Tryz.ntmps75
      go_upto_region 1 with (fail)
      generalize w.alloc (.cells #[.slice AT s.nT cT, .slice AB s.nB cB, .slice AH s.nH cH] 64) = w0 at *
      go_quiet (fail)
      go_wp2_with (go_at_call 128; (with_reducible refine (HB.out _ (HP.out _)).mono ?_); rintro e w1 ⟨⟨b1, rfl, hb1⟩, hg1⟩; have HG1 := Lib.hid hg1; have HB1 := Lib.hid hb1; have s0 := hg1.cellN s0 id; have s1 := hg1.cellN s1 id; have s2 := hg1.cellN s2 id; clear hg1 hb1; cases b1)
      · go_ret
        exact Tells.no (fun x => Bool.noConfusion (HB1.out.2 x.2.2.1)) ((HG0.out.drewN _).trans HG1.out)
      · go_wp2_with (go_at_call 129; (with_reducible refine (HH.out _ ((HP.out _).grow HG1.out)).mono ?_); rintro e w2 ⟨⟨b2, rfl, hb2⟩, hg2⟩; have HG2 := Lib.hid hg2; have HB2 := Lib.hid hb2; clear hg2 hb2)
        go_ret
        exact ⟨⟨b2, rfl, fun x => ⟨HRG.out, HE.out, HB1.out.1 trivial, HB2.out.1 x⟩, fun x => HB2.out.2 x.2.2.2⟩, ((HG0.out.drewN _).trans HG1.out).trans HG2.out⟩
    · have h1 : 1 ≤ (s.nT : Int) := by omega
      have h2 : (s.nT : Int) ≤ 48 := by omega
      have h3 : 1 ≤ (s.nH : Int) := by omega
      have h4 : (s.nH : Int) ≤ 6 := by omega
      have h5 : ((s.nB : Int) == (s.nT : Int)) = false := by simp; omega
      have HBAD : Hid (¬ s.may) := fun x => he x.2.1
      clear hr he
      unfold stv at *
      go_enter Tryz.func75, Tryz.ntmps75
      go_upto_region 1 with (fail)
      generalize w.alloc (.cells #[.slice AT s.nT cT, .slice AB s.nB cB, .slice AH s.nH cH] 64) = w0 at *
      go_quiet (fail)
      go_wp2
      go_ret
      exact Tells.no HBAD.out (HG0.out.drewN _)
  · have HBAD : Hid (¬ s.may) := fun x => hr x.1
    have hbad : (decide ((s.nT : Int) < 1) || decide (48 < (s.nT : Int)) || decide ((s.nH : Int) < 1) || decide (6 < (s.nH : Int))) = true := by
      simp only [Bool.or_eq_true, decide_eq_true_eq]
      omega
    have HQ : Hid (stv AT cT AB cB AH cH s = stv AT cT AB cB AH cH s) := rfl
    by_cases h1 : (s.nT : Int) < 1
    · clear hr hbad
      unfold stv at *
      go_enter Tryz.func75, Tryz.ntmps75
      go_upto_region 1 with (fail)
      generalize w.alloc (.cells #[.slice AT s.nT cT, .slice AB s.nB cB, .slice AH s.nH cH] 64) = w0 at *
      go_quiet (fail)
      go_wp2
      go_ret
      exact Tells.no HBAD.out (HG0.out.drewN _)
    · by_cases h2 : 48 < (s.nT : Int)
      · have h1' : 1 ≤ (s.nT : Int) := by omega
        clear hr hbad h1
        unfold stv at *
        go_enter Tryz.func75, Tryz.ntmps75
        go_upto_region 1 with (fail)
        generalize w.alloc (.cells #[.slice AT s.nT cT, .slice AB s.nB cB, .slice AH s.nH cH] 64) = w0 at *
        go_quiet (fail)
        go_wp2
        go_ret
        exact Tells.no HBAD.out (HG0.out.drewN _)
      · by_cases h3 : (s.nH : Int) < 1
        · have h1' : 1 ≤ (s.nT : Int) := by omega
          have h2' : (s.nT : Int) ≤ 48 := by omega
          clear hr hbad h1 h2
          unfold stv at *
          go_enter Tryz.func75, Tryz.ntmps75
          go_upto_region 1 with (fail)
          generalize w.alloc (.cells #[.slice AT s.nT cT, .slice AB s.nB cB, .slice AH s.nH cH] 64) = w0 at *
          go_quiet (fail)
          go_wp2
          go_ret
          exact Tells.no HBAD.out (HG0.out.drewN _)
        · have h1' : 1 ≤ (s.nT : Int) := by omega
          have h2' : (s.nT : Int) ≤ 48 := by omega
          have h3' : 1 ≤ (s.nH : Int) := by omega
          have h4' : 6 < (s.nH : Int) := by omega
          clear hr hbad h1 h2 h3
          unfold stv at *
          go_enter Tryz.func75, Tryz.ntmps75
          go_upto_region 1 with (fail)
          generalize w.alloc (.cells #[.slice AT s.nT cT, .slice AB s.nB cB, .slice AH s.nH cH] 64) = w0 at *
          go_quiet (fail)
          go_wp2
          go_ret
          exact Tells.no HBAD.out (HG0.out.drewN _)
end
end Go.Proofs.YtbnkpnllgoghnaaGreat.PmM

namespace Go.Proofs.YtbnkpnllgoghnaaGreat.PmP
open Go.ChangeShapes Go.WideShapes Go.ChangeAt Go.RowKit
open Go.Proofs.YtbnkpnllgoghnaaGreat.Mem Go.Proofs.YtbnkpnllgoghnaaGreat.Blk Go.Proofs.YtbnkpnllgoghnaaGreat.Cells Go.Proofs.YtbnkpnllgoghnaaGreat.Orow Go.Proofs.YtbnkpnllgoghnaaGreat.GrC Go.Proofs.YtbnkpnllgoghnaaGreat.MdM Go.Proofs.YtbnkpnllgoghnaaGreat.MdC Go.Proofs.YtbnkpnllgoghnaaGreat.MdR Go.Proofs.YtbnkpnllgoghnaaGreat.PmC Go.Proofs.YtbnkpnllgoghnaaGreat.PmI Go.Proofs.YtbnkpnllgoghnaaGreat.PmM Go.Proofs.YtbnkpnllgoghnaaGreat.Stages
open Go.Proofs.YtbnkpnllgoghnaaGreat.HdM (lst hnd cnt sum lst_eq hnd_at hnd_none hnd_cases cnt_yes cnt_no cnt_le sum_le)
section
variable {w w' : World} {AT AB AH : Option Addr} {cT cB cH : Nat} {a : Md}
set_option maxHeartbeats 4000000 in
theorem ppins_any (hp : Parts w AT cT AB cB AH cH (stOf a)) (hg : MdM.Good a) (p : Int) : Calls Tryz.prog 28 #[.agg #[.slice AT a.n cT, .slice AB a.n cB, .slice AH a.N cH], .int .i64 p] w fun e w' => e = .returned (.int .i64 (a.pins p : Int)) ∧ Grow w w' := by
  have HG0 : Hid (Grow w (w.alloc (.cells #[.slice AT a.n cT, .slice AB a.n cB, .slice AH a.N cH] 64))) := (Kept.refl _ _).alloc _
  have hb := Blk.new w 64 [.slice AT a.n cT, .slice AB a.n cB, .slice AH a.N cH]
  have s2 := hb.cell 2
  simp only [List.getElem?_cons_zero, List.getElem?_cons_succ] at s2
  obtain ⟨rb, ro, re, hr⟩ := lists_form (hp.H.grow HG0.out)
  have hN0 := hg.N
  obtain rfl := re (by show 0 < a.N; omega)
  have hro : ∀ i, i < a.N → ∃ bb oo c, (w.alloc (.cells #[.slice AT a.n cT, .slice AB a.n cB, .slice (some ⟨rb, ro, none⟩) a.N cH] 64)).cell? ⟨rb, ro + i, none⟩ = some (.slice (some ⟨bb, oo, none⟩) 6 c) ∧ ∀ t, t < 6 → (w.alloc (.cells #[.slice AT a.n cT, .slice AB a.n cB, .slice (some ⟨rb, ro, none⟩) a.N cH] 64)).cell? ⟨bb, oo + t, none⟩ = some (.int .i64 (a.H i t)) := fun i hi => by
    obtain ⟨A', c, h1, h2⟩ := hr i hi
    have e6 : ((stOf a).H i).length = 6 := six_len _
    rw [e6] at h1 h2
    obtain ⟨bb, oo, rfl, _, hc⟩ := h2.at_ (by omega)
    refine ⟨bb, oo, c, h1, fun t ht => ?_⟩
    rw [hc t ht]
    show some (Value.int .i64 ((six (a.H i)).getD t 0)) = _
    rw [six_get _ ht]
  have HRO := Lib.hid hro
  have HGD := Lib.hid hg
  have hnz : (a.N : Int) ≤ 6 := by omega
  have HEND : Hid (pinsTo a p a.N = a.pins p) := rfl
  have HOUT : Hid (p < 0 → a.pins p = 0) := fun h => if_pos h
  clear hb hp hg hr hro re hN0
  by_cases hp0 : p < 0
  · rw [HOUT.out hp0]
    go_enter Tryz.func28, Tryz.ntmps28
    go_wp2
    go_ret
    exact ⟨rfl, HG0.out⟩
  have hp1 : 0 ≤ p := by omega
  have HP1 := Lib.hid hp1
  clear hp0
  go_enter Tryz.func28, Tryz.ntmps28
  go_upto_region 1 with (fail)
  generalize w.alloc (.cells #[.slice AT a.n cT, .slice AB a.n cB, .slice (some ⟨rb, ro, none⟩) a.N cH] 64) = w0 at *
  go_wp2
  go_loopg [5, 15] a.N (fun gx s i wr => ∃ j : Nat, j + gx = a.N ∧ i = .int .i64 (j : Int) ∧ s = .int .i64 ((pinsTo a p j : Nat) : Int) ∧ w0 = wr)
  case atStart => exact ⟨0, by omega, rfl, by unfold pinsTo; split <;> rfl, rfl⟩
  case round =>
    obtain ⟨j, hg, rfl, rfl, rfl⟩ := hrel
    have HG := Lib.hid hg
    clear hg
    by_cases hj : j < a.N
    · have hjz : (j : Int) < (a.N : Int) := by omega
      obtain ⟨bb, oo, c, c1, hrow⟩ := HRO.out j hj
      have HROW := Lib.hid hrow
      have HJ := Lib.hid hj
      clear hj hrow
      go_wp2
      go_loopg [5, 21] 6 (fun gx s i wr => ∃ t : Nat, t + gx = 6 ∧ i = .int .i64 (t : Int) ∧ s = .int .i64 ((pinsAt a p j t : Nat) : Int) ∧ w0 = wr)
      case atStart => exact ⟨0, by omega, rfl, by rw [pinsAt_zero], rfl⟩
      case round =>
        obtain ⟨t, hg, rfl, rfl, rfl⟩ := hrel
        have HT := Lib.hid hg
        clear hg
        by_cases ht : t < 6
        · have htz : (t : Int) < 6 := by omega
          have r1 := HROW.out t ht
          have hs42 : ((pinsAt a p j t : Nat) : Int) ≤ 42 := by have := pinsAt_le HGD.out p HJ.out (show t ≤ 6 by omega); omega
          have HY := Lib.hid fun h => pinsAt_yes (a := a) (p := p) (m := j) (t := t) h
          have HX := Lib.hid fun h => pinsAt_no (a := a) (p := p) (m := j) (t := t) h
          generalize a.H j t = x at r1 HY HX
          by_cases hx : x = p
          · have hc := HY.out hx HP1.out
            have HC := Lib.hid hc
            clear hc HY HX
            subst hx
            go_wp2
            go_roundg (gk - 1)
            case measure => have := HT.out; omega
            case rel => exact ⟨t + 1, by have := HT.out; omega, by go_num, by rw [HC.out]; go_num, rfl⟩
          · have hc := HX.out (.inl hx)
            have HC := Lib.hid hc
            have hx' : (x == p) = false := by simpa using hx
            clear hc HY HX hx
            go_wp2
            go_roundg (gk - 1)
            case measure => have := HT.out; omega
            case rel => exact ⟨t + 1, by have := HT.out; omega, by go_num, by rw [HC.out], rfl⟩
        · obtain rfl : t = 6 := by have := HT.out; omega
          have hsix := Lib.hid (pinsAt_six a p j)
          clear ht
          go_wp2
          go_roundg (a.N - (j + 1))
          case measure => have := HG.out; have := HJ.out; omega
          case rel => exact ⟨j + 1, by have := HG.out; have := HJ.out; omega, by go_num, by rw [hsix.out], rfl⟩
    · obtain rfl : j = a.N := by have := HG.out; omega
      rw [HEND.out]
      go_wp2
      go_ret
      exact ⟨rfl, HG0.out⟩
end
end Go.Proofs.YtbnkpnllgoghnaaGreat.PmP
