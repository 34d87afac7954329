/-
  What the functions of package page compute (chapter 2), at every number and bytes: Blank, Seal, Open.
-/
import Derived.Test.YtmdafgonnkppoaaChecked
import Derived.Test.YtmdafgonnkppoaaPageMath
import Derived.Test.YtmdafgonnkppoaaSumCalls
import Derived.Test.YtmdafgonnkppoaaBlk
import Derived.Deep.Cut
import Derived.Deep.DeepCutAuto
import Derived.Deep.CutBlock
namespace Go.Proofs.Ytmdafgonnkppoaa.PageC
open Go.ChangeShapes Go.WideShapes Go.ChangeAt Go.RowKit
open Go.Proofs.Ytmdafgonnkppoaa.SumM Go.Proofs.Ytmdafgonnkppoaa.Mem Go.Proofs.Ytmdafgonnkppoaa.SumC Go.Proofs.Ytmdafgonnkppoaa.Blk Go.Proofs.Ytmdafgonnkppoaa.PageM

theorem infoU8 : (Try.prog.info? 5).map (fun i => (i.zero, i.size, i.bytes)) = some (some (.int .u8 0), 1, 1) := by kernel_rfl

theorem sizeU8 : (Try.prog.info? 5).map (·.size) = some 1 := by kernel_rfl

theorem isPage_any (id : Int) (w : World) (hlo : -9223372036854775808 ≤ id) (hhi : id < 9223372036854775808) :
    Calls Try.prog 16 #[.int .i64 id] w fun e w' => e = .returned (.bool (isPage id)) ∧ w = w' := by
  have HP : Hid (isPage id = (decide (0 ≤ id) && decide (id < 48))) := rfl
  by_cases h0 : 0 ≤ id
  · by_cases h1 : id < 48
    · go_enter Try.func16, Try.ntmps16
      go_wp2
      go_ret
      exact ⟨by rw [HP.out]; simp [h0, h1], rfl⟩
    · have h1' : 48 ≤ id := by omega
      go_enter Try.func16, Try.ntmps16
      go_wp2
      go_ret
      exact ⟨by rw [HP.out]; simp [h1], rfl⟩
  · have h0' : id < 0 := by omega
    go_enter Try.func16, Try.ntmps16
    go_wp2
    go_ret
    exact ⟨by rw [HP.out, decide_eq_false (by omega)]; rfl, rfl⟩

/-- A slice of bytes that the call made: the block g, known whole. -/
def FreshBytes (w : World) (n : Nat) (zs : List Int) (e : Ending) (w' : World) : Prop :=
  ∃ g, e = .returned (.slice (some ⟨g, 0, none⟩) n n) ∧ w.heap.size ≤ g ∧ NBlk w' g 5 .u8 zs ∧ Grow w w'

theorem blank_any (w : World) : Calls Try.prog 13 #[] w (FreshBytes w 24 (zeros 24)) := by
  have hmk := fun w => run_make_row' (P := Try.prog) 22 5 (.int .u8 0) 1 Try.underlying22 infoU8 rfl .i64 .i64 24 (by omega) (by omega) w
  simp only [Int.cast_ofNat_Int] at hmk
  go_enter Try.func13, Try.ntmps13
  go_wp2
  go_ret
  exact ⟨w.heap.size, rfl, Nat.le_refl _, NBlk.made w _ _ 24, (Kept.refl _ _).alloc _⟩

theorem zeros_at {w : World} {g n : Nat} (h : NBlk w g 5 .u8 (zeros n)) : ∀ j, j < n → w.cell? ⟨g, j, none⟩ = some (.int .u8 0) := fun j hj => by
  rw [NBlk.at_ h (by rw [zeros_len]; exact hj)]
  simp [zeros, List.getD_eq_getElem?_getD, hj]

/-- What Seal tells of what it takes. -/
def SealGood (w : World) (id : Int) (zs : List Int) (e : Ending) (w' : World) : Prop :=
  ∃ g, e = .returned (.tuple #[.slice (some ⟨g, 0, none⟩) 24 24, .int .i64 0]) ∧ w.heap.size ≤ g ∧ NBlk w' g 5 .u8 (sealI id zs) ∧ Grow w w'

set_option maxHeartbeats 1000000 in
theorem seal_good (id : Int) (A : Option Addr) (cap B : Nat) (zs : List Int) (w : World) (h0 : 0 ≤ id) (h1 : id < 48) (hz : Bytes zs) (h : Sl w B .u8 A 16 zs) (hB : B ≤ w.heap.size) :
    Calls Try.prog 9 #[.int .i64 id, .slice A 16 cap] w (SealGood w id zs) := by
  have HP := Lib.hid (isPage_any id w (by omega) (by omega))
  have hp : isPage id = true := by simp [isPage, h0, h1]
  rw [hp] at HP
  clear hp
  obtain ⟨b, off, rfl, hb, hcell⟩ := h.at_ (by omega)
  have HC := Lib.hid hcell
  have HS := Lib.hid h
  clear hcell h
  go_enter Try.func9, Try.ntmps9
  go_upto_region 7 with (first
    | (go_at_call 16; (with_reducible refine HP.out.mono ?_); rintro e w' ⟨rfl, rfl⟩)
    | (go_at_call 13; (with_reducible refine (blank_any _).mono ?_); rintro e w1 ⟨g, rfl, hg, hblk, hgr⟩; have hc := zeros_at hblk; have hf := Blk.frozenAll hblk; have HBLK := Lib.hid hblk; have HGR := Lib.hid hgr; clear hblk hgr))
  have hblk := HBLK.out
  have hgr := HGR.out
  have hb4 := (((NBlk.set hblk 4 (id + 1)).set 5 ((id + 1) / 256)).set 6 90).set 7 165
  have hgr4 := (((hgr.setCell (p := ⟨g, 4, none⟩) (fun h => absurd h (by show ¬ g < _; omega)) (.int .u8 (id + 1))).setCell (p := ⟨g, 5, none⟩) (fun h => absurd h (by show ¬ g < _; omega)) (.int .u8 ((id + 1) / 256))).setCell (p := ⟨g, 6, none⟩) (fun h => absurd h (by show ¬ g < _; omega)) (.int .u8 90)).setCell (p := ⟨g, 7, none⟩) (fun h => absurd h (by show ¬ g < _; omega)) (.int .u8 165)
  clear hc hf hblk hgr HBLK HGR
  generalize ((((w1.setCell { block := g, off := 4 } (Value.int IntKind.u8 (id + 1))).setCell { block := g, off := 5 } (Value.int IntKind.u8 ((id + 1) / 256))).setCell { block := g, off := 6 } (Value.int IntKind.u8 90)).setCell { block := g, off := 7 } (Value.int IntKind.u8 165)) = w2 at hb4 hgr4 ⊢
  have HB4 := Lib.hid hb4
  have HG4 := Lib.hid hgr4
  clear hb4 hgr4
  have hsrc : Sl w2 B .u8 (some ⟨b, off, none⟩) 16 zs := Sl.kept HS.out HG4.out hB fun _ _ x => x
  obtain ⟨w3, hcopy, hb5, hk5⟩ := run_copy (P := Try.prog) 22 22 3 5 Try.underlying22 sizeU8 HB4.out 8 16 16 cap hsrc 16 (by decide) (by simp [zeros])
  have HG5 : Hid (Grow w w3) := HG4.out.then hk5 fun k hk e => by omega
  rw [List.take_of_length_le (Nat.le_of_eq hsrc.len)] at hb5
  have hq : (id + 1) / 256 = 0 := by omega
  have e5 : (((((zeros 24).set 4 (id + 1)).set 5 ((id + 1) / 256)).set 6 90).set 7 165).take 8 = [0, 0, 0, 0] ++ hdr id := by rw [hq]; rfl
  have e6 : (((((zeros 24).set 4 (id + 1)).set 5 ((id + 1) / 256)).set 6 90).set 7 165).drop (8 + 16) = [] := rfl
  rw [e5, e6, List.append_nil, List.append_assoc] at hb5
  have hlz : zs.length = 16 := hsrc.len
  have hb6 : NBlk w3 g 5 .u8 ([0, 0, 0, 0] ++ tail id zs) := hb5
  have ht := tail_bytes h0 h1 hz
  have htl : (tail id zs).length = 20 := by rw [tail_len]; omega
  have hs4 : Sl w3 w3.heap.size .u8 (some ⟨g, 4, none⟩) 20 (tail id zs) := by
    have := Sl.of_blk (B := w3.heap.size) hb6 4 20 (by simp [htl]) (Blk.lt hb6)
    have e : (([0, 0, 0, 0] ++ tail id zs).drop 4).take 20 = tail id zs := List.take_of_length_le (Nat.le_of_eq htl)
    rwa [e] at this
  have hc : ∀ j, j < 24 → w3.cell? ⟨g, j, none⟩ = some (.int .u8 (([0, 0, 0, 0] ++ tail id zs).getD j 0)) := fun j hj => NBlk.at_ hb6 (by simp [htl]; omega)
  have hf := Blk.frozenAll hb6
  have HO := Lib.hid (of_any (some ⟨g, 4, none⟩) 20 20 _ (tail id zs) w3 ht (by unfold maxLen; omega) hs4)
  have hu := ofI_u32 ht
  have HB6 := Lib.hid hb6
  have HT : Hid (sealI id zs = le4 (ofI (tail id zs)) ++ tail id zs) := rfl
  clear hb5 hk5 e5 e6 hb6 hs4 hsrc HB4 HG4 HP HC HS hq hlz htl
  generalize ofI (tail id zs) = s at hu HO HT
  obtain ⟨hu0, hu1⟩ := hu
  generalize tail id zs = ts at *
  go_wp2_with (go_at_call 17; (with_reducible refine HO.out.mono ?_); rintro e w' ⟨rfl, rfl⟩)
  go_ret2
  have hl : s / 16777216 = s / 16777216 % 256 := by omega
  have hb7 := (((NBlk.set HB6.out 0 (s % 256)).set 1 (s / 256 % 256)).set 2 (s / 65536 % 256)).set 3 (s / 16777216)
  refine ⟨g, rfl, hg, ?_, (((HG5.out.setCell (p := ⟨g, 0, none⟩) (fun h => absurd h (by show ¬ g < _; omega)) _).setCell (p := ⟨g, 1, none⟩) (fun h => absurd h (by show ¬ g < _; omega)) _).setCell (p := ⟨g, 2, none⟩) (fun h => absurd h (by show ¬ g < _; omega)) _).setCell (p := ⟨g, 3, none⟩) (fun h => absurd h (by show ¬ g < _; omega)) _⟩
  rw [HT.out, le4, ← hl]
  exact hb7

theorem seal_bad (id : Int) (A : Option Addr) (n cap : Nat) (w : World) (hlo : -9223372036854775808 ≤ id) (hhi : id < 9223372036854775808) (hn : n ≤ maxLen) (hbad : ¬ (0 ≤ id ∧ id < 48 ∧ n = 16)) :
    Calls Try.prog 9 #[.int .i64 id, .slice A n cap] w fun e w' => e = .returned (.tuple #[.slice none 0 0, .int .i64 1]) ∧ w = w' := by
  unfold maxLen at hn
  have HP := Lib.hid (isPage_any id w hlo hhi)
  cases hp : isPage id with
  | false =>
    rw [hp] at HP
    clear hp hbad
    go_enter Try.func9, Try.ntmps9
    go_wp2_with (go_at_call 16; (with_reducible refine HP.out.mono ?_); rintro e w' ⟨rfl, rfl⟩)
    go_ret2
    exact ⟨rfl, rfl⟩
  | true =>
    rw [hp] at HP
    have hne : n ≠ 16 := fun h => hbad (by simp [isPage] at hp; omega)
    clear hp hbad
    have h16 : ((n : Int) != 16) = true := by simpa [bne_iff_ne] using (by omega : ¬ (n : Int) = 16)
    go_enter Try.func9, Try.ntmps9
    go_wp2_with (go_at_call 16; (with_reducible refine HP.out.mono ?_); rintro e w' ⟨rfl, rfl⟩)
    go_ret2
    exact ⟨rfl, rfl⟩

theorem take_snoc' (l : List Int) (k : Nat) (h : k < l.length) : l.take (k + 1) = l.take k ++ [l.getD k 0] := by
  rw [List.take_succ_eq_append_getElem h, List.getD_eq_getElem?_getD, List.getElem?_eq_getElem h]; rfl

/-- Which of two lists zs is. -/
def whichI (zs x y : List Int) : Int := if x = zs then 0 else if y = zs then 1 else -1

set_option maxHeartbeats 1000000 in
theorem which_any (A A0 A1 : Option Addr) (n cap c0 c1 gs : Nat) (B : Nat) (zs x y : List Int) (w : World) (hn : n ≤ maxLen)
    (h : Sl w B .u8 A n zs) (hx : Sl w B .u8 A0 n x) (hy : Sl w B .u8 A1 n y) (g0 : w.cell? ⟨gs, 0, none⟩ = some (.slice A0 n c0)) (g1 : w.cell? ⟨gs, 1, none⟩ = some (.slice A1 n c1)) :
    Calls Try.prog 20 #[.slice A n cap, .slice (some ⟨gs, 0, none⟩) 2 2] w fun e w' => e = .returned (.int .i64 (whichI zs x y)) ∧ w = w' := by
  unfold maxLen at hn
  have HZ := Lib.hid h
  have HX := Lib.hid hx
  have HY := Lib.hid hy
  clear h hx hy
  go_enter Try.func20, Try.ntmps20
  go_wp2
  go_step3
  go_wp2
  go_step3
  go_wp2
  go_loopg [11] 2 (fun g i wr => ∃ j : Nat, j + g = 2 ∧ i = .int .i64 (j : Int) ∧ (1 ≤ j → x ≠ zs) ∧ (2 ≤ j → y ≠ zs) ∧ w = wr)
  case atStart => exact ⟨0, rfl, rfl, fun h => absurd h (by omega), fun h => absurd h (by omega), rfl⟩
  case round =>
    obtain ⟨j, hg, rfl, q1, q2, rfl⟩ := hrel
    have Q1 := Lib.hid q1
    have Q2 := Lib.hid q2
    clear q1 q2
    match j, hg with
    | 0, hg =>
      obtain rfl : gk = 2 := by omega
      clear hg
      simp only [Int.natCast_zero, Int.cast_ofNat_Int]
      go_wp2
      go_loopg [18] n (fun g i wr => ∃ q : Nat, q + g = n ∧ i = .int .i64 (q : Int) ∧ x.take q = zs.take q ∧ w = wr)
      case atStart => exact ⟨0, by omega, rfl, rfl, rfl⟩
      case round =>
        obtain ⟨q, hq, rfl, ht, rfl⟩ := hrel
        have lx := HX.out.len
        have lz := HZ.out.len
        by_cases hlt : q < n
        · obtain ⟨b, off, rfl, _, hcell⟩ := HZ.out.at_ (by omega)
          obtain ⟨b', off', rfl, _, hcell'⟩ := HX.out.at_ (by omega)
          have hc := hcell q hlt
          have hc' := hcell' q hlt
          have HSX := Lib.hid (take_snoc' x q (by omega))
          have HSZ := Lib.hid (take_snoc' zs q (by omega))
          have HQ := Lib.hid hq
          have HT := Lib.hid ht
          have HM : Hid (x.getD q 0 ≠ zs.getD q 0 → x ≠ zs) := fun h1 h2 => h1 (by rw [h2])
          clear hq ht hcell hcell' lx lz
          generalize x.getD q 0 = c at hc' HSX HM
          generalize zs.getD q 0 = d at hc HSZ HM
          by_cases he : c = d
          · subst he
            go_wp2
            go_roundg (gk - 1)
            case measure => have := HQ.out; omega
            case rel => exact ⟨q + 1, by have := HQ.out; omega, by go_num, by rw [HSX.out, HSZ.out, HT.out], rfl⟩
          · have hn' : (c != d) = true := by simpa [bne_iff_ne] using he
            go_wp2
            go_roundg 1
            case measure => omega
            case rel => exact ⟨1, by omega, by go_num, fun _ => HM.out he, fun h => absurd h (by omega), rfl⟩
        · have e : x = zs := by
            have e1 : q = n := by omega
            rw [e1, List.take_of_length_le (by omega), List.take_of_length_le (by omega)] at ht
            exact ht
          have HW : Hid (whichI zs x y = 0) := by
            show whichI zs x y = 0
            unfold whichI
            rw [if_pos e]
          clear ht e lx lz hq
          go_wp2
          rw [Exit.noGoto_ret]
          go_ret
          exact ⟨by rw [HW.out]; rfl, rfl⟩
    | 1, hg =>
      obtain rfl : gk = 1 := by omega
      clear hg
      simp only [Int.natCast_zero, Int.cast_ofNat_Int]
      go_wp2
      go_loopg [18] n (fun g i wr => ∃ q : Nat, q + g = n ∧ i = .int .i64 (q : Int) ∧ y.take q = zs.take q ∧ w = wr)
      case atStart => exact ⟨0, by omega, rfl, rfl, rfl⟩
      case round =>
        obtain ⟨q, hq, rfl, ht, rfl⟩ := hrel
        have lx := HY.out.len
        have lz := HZ.out.len
        by_cases hlt : q < n
        · obtain ⟨b, off, rfl, _, hcell⟩ := HZ.out.at_ (by omega)
          obtain ⟨b', off', rfl, _, hcell'⟩ := HY.out.at_ (by omega)
          have hc := hcell q hlt
          have hc' := hcell' q hlt
          have HSX := Lib.hid (take_snoc' y q (by omega))
          have HSZ := Lib.hid (take_snoc' zs q (by omega))
          have HQ := Lib.hid hq
          have HT := Lib.hid ht
          have HM : Hid (y.getD q 0 ≠ zs.getD q 0 → y ≠ zs) := fun h1 h2 => h1 (by rw [h2])
          clear hq ht hcell hcell' lx lz
          generalize y.getD q 0 = c at hc' HSX HM
          generalize zs.getD q 0 = d at hc HSZ HM
          by_cases he : c = d
          · subst he
            go_wp2
            go_roundg (gk - 1)
            case measure => have := HQ.out; omega
            case rel => exact ⟨q + 1, by have := HQ.out; omega, by go_num, by rw [HSX.out, HSZ.out, HT.out], rfl⟩
          · have hn' : (c != d) = true := by simpa [bne_iff_ne] using he
            go_wp2
            go_roundg 0
            case measure => omega
            case rel => exact ⟨2, by omega, by go_num, fun _ => Q1.out (by omega), fun _ => HM.out he, rfl⟩
        · have e : y = zs := by
            have e1 : q = n := by omega
            rw [e1, List.take_of_length_le (by omega), List.take_of_length_le (by omega)] at ht
            exact ht
          have HW : Hid (whichI zs x y = 1) := by
            show whichI zs x y = 1
            unfold whichI
            rw [if_neg (Q1.out (by omega)), if_pos e]
          clear ht e lx lz hq
          go_wp2
          rw [Exit.noGoto_ret]
          go_ret
          exact ⟨by rw [HW.out]; rfl, rfl⟩
    | j + 2, hg =>
      obtain ⟨rfl, rfl⟩ : j = 0 ∧ gk = 0 := by omega
      have HW : Hid (whichI zs x y = -1) := by
        show whichI zs x y = -1
        unfold whichI
        rw [if_neg (Q1.out (by omega)), if_neg (Q2.out (by omega))]
      clear hg
      simp only [Nat.zero_add, Int.cast_ofNat_Int]
      go_wp2
      rw [Exit.noGoto_ret]
      go_ret
      exact ⟨by rw [HW.out]; rfl, rfl⟩

/-- What Open tells: the code, and the body in memory of its own. -/
def OpenPost (w : World) (id : Int) (zs : List Int) (e : Ending) (w' : World) : Prop :=
  ∃ A c, e = .returned (.tuple #[.slice A (openB id zs).length c, .int .i64 (openC id zs)]) ∧ (openC id zs = 0 → ∃ g, A = some ⟨g, 8, none⟩ ∧ w.heap.size ≤ g ∧ NBlk w' g 5 .u8 (sealI id (openB id zs))) ∧ (openC id zs ≠ 0 → A = none ∧ c = 0) ∧ Grow w w'

theorem open_bad (id : Int) (A : Option Addr) (n cap : Nat) (w : World) (hlo : -9223372036854775808 ≤ id) (hhi : id < 9223372036854775808) (hn : n ≤ maxLen) (hbad : ¬ (0 ≤ id ∧ id < 48 ∧ n = 24)) :
    Calls Try.prog 11 #[.int .i64 id, .slice A n cap] w fun e w' => e = .returned (.tuple #[.slice none 0 0, .int .i64 1]) ∧ w = w' := by
  unfold maxLen at hn
  have HP := Lib.hid (isPage_any id w hlo hhi)
  cases hp : isPage id with
  | false =>
    rw [hp] at HP
    clear hp hbad
    go_enter Try.func11, Try.ntmps11
    go_wp2_with (go_at_call 16; (with_reducible refine HP.out.mono ?_); rintro e w' ⟨rfl, rfl⟩)
    go_ret2
    exact ⟨rfl, rfl⟩
  | true =>
    rw [hp] at HP
    have hne : n ≠ 24 := fun h => hbad (by simp [isPage] at hp; omega)
    clear hp hbad
    have h16 : ((n : Int) != 24) = true := by simpa [bne_iff_ne] using (by omega : ¬ (n : Int) = 24)
    go_enter Try.func11, Try.ntmps11
    go_wp2_with (go_at_call 16; (with_reducible refine HP.out.mono ?_); rintro e w' ⟨rfl, rfl⟩)
    go_ret2
    exact ⟨rfl, rfl⟩

set_option maxHeartbeats 1000000 in
theorem open_good (id : Int) (A : Option Addr) (cap B : Nat) (zs : List Int) (w : World) (h0 : 0 ≤ id) (h1 : id < 48) (hz : Bytes zs) (h : Sl w B .u8 A 24 zs) (hB : B ≤ w.heap.size) (hcap : 24 ≤ cap) (hcap' : cap ≤ maxLen) :
    Calls Try.prog 11 #[.int .i64 id, .slice A 24 cap] w (OpenPost w id zs) := by
  unfold maxLen at hcap'
  have HP := Lib.hid (isPage_any id w (by omega) (by omega))
  have hp : isPage id = true := by simp [isPage, h0, h1]
  rw [hp] at HP
  clear hp
  obtain ⟨b, off, rfl, hb, hcell⟩ := h.at_ (by omega)
  have HS := Lib.hid h
  have h8 : Sl w B .u8 (some ⟨b, off + 8, none⟩) 16 (zs.drop 8) := by
    have := h.cut (m := 8) (cap := cap) (by omega) (by omega)
    rw [if_neg (by omega)] at this
    simpa [Addr.add] using this
  have hz8 : Bytes (zs.drop 8) := fun c hc => hz c (List.mem_of_mem_drop hc)
  have H8 := Lib.hid (fun cap => seal_good id (some ⟨b, off + 8, none⟩) cap B (zs.drop 8) w h0 h1 hz8 h8 hB)
  clear hcell h h8
  go_enter Try.func11, Try.ntmps11
  go_upto_region 4 with (first
    | (go_at_call 16; (with_reducible refine HP.out.mono ?_); rintro e w' ⟨rfl, rfl⟩)
    | (go_at_call 9; (with_reducible refine (H8.out _).mono ?_); rintro e w1 ⟨g, rfl, hg, hblk, hgr⟩; have HBLK := Lib.hid hblk; have HGR := Lib.hid hgr; clear hblk hgr))
  go_wp2_with (go_at_call 13; (with_reducible refine (blank_any _).mono ?_); rintro e w2 ⟨g2, rfl, hg2, hblk2, hgr2⟩; have HBLK2 := Lib.hid hblk2; have HGR2 := Lib.hid hgr2; clear hblk2 hgr2)
  have hgz : g < w1.heap.size := Blk.lt HBLK.out
  have hg2z : g2 < w2.heap.size := Blk.lt HBLK2.out
  have hzw : w.heap.size ≤ w1.heap.size := HGR.out.size
  have hzw2 : w1.heap.size ≤ w2.heap.size := HGR2.out.size
  have HG3 : Hid (Grow w (w2.alloc (.cells #[.slice (some ⟨g2, 0, none⟩) 24 24, .slice (some ⟨g, 0, none⟩) 24 24] 22))) := (HGR.out.trans HGR2.out).alloc _
  have HB3 : Hid (NBlk (w2.alloc (.cells #[.slice (some ⟨g2, 0, none⟩) 24 24, .slice (some ⟨g, 0, none⟩) 24 24] 22)) g 5 .u8 (sealI id (zs.drop 8))) := (Blk.grow HBLK.out HGR2.out).alloc _
  have HZ3 : Hid (NBlk (w2.alloc (.cells #[.slice (some ⟨g2, 0, none⟩) 24 24, .slice (some ⟨g, 0, none⟩) 24 24] 22)) g2 5 .u8 (zeros 24)) := Blk.alloc HBLK2.out _
  have HL3 : Hid (Blk (w2.alloc (.cells #[.slice (some ⟨g2, 0, none⟩) 24 24, .slice (some ⟨g, 0, none⟩) 24 24] 22)) w2.heap.size 22 [.slice (some ⟨g2, 0, none⟩) 24 24, .slice (some ⟨g, 0, none⟩) 24 24]) := Blk.new w2 _ [.slice (some ⟨g2, 0, none⟩) 24 24, .slice (some ⟨g, 0, none⟩) 24 24]
  generalize w2.alloc (.cells #[.slice (some ⟨g2, 0, none⟩) 24 24, .slice (some ⟨g, 0, none⟩) 24 24] 22) = w3 at HG3 HB3 HZ3 HL3 ⊢
  have hw3 : B ≤ w3.heap.size := Nat.le_trans hB HG3.out.size
  have hl : zs.length = 24 := HS.out.len
  have hS3 : Sl w3 w3.heap.size .u8 (some ⟨b, off, none⟩) 24 zs := (Sl.kept HS.out HG3.out hB fun _ _ x => x).more hw3
  have HW := which_any (some ⟨b, off, none⟩) (some ⟨g2, 0, none⟩) (some ⟨g, 0, none⟩) 24 cap 24 24 w2.heap.size w3.heap.size zs (zeros 24) (sealI id (zs.drop 8)) w3 (by unfold maxLen; omega) hS3
    (Sl.of_blk0 HZ3.out (by simp [zeros]) (Blk.lt HZ3.out)) (Sl.of_blk0 HB3.out (by rw [seal_len]; simp; omega) (Blk.lt HB3.out)) (by rw [Blk.cell HL3.out]; rfl) (by rw [Blk.cell HL3.out]; rfl)
  refine HW.mono ?_
  clear HW
  rintro e w' ⟨rfl, rfl⟩
  have hoc := openC_good h0 h1 hl
  have hob : openB id zs = if openC id zs = 0 then zs.drop 8 else [] := rfl
  have hwi : whichI zs (zeros 24) (sealI id (zs.drop 8)) = if zeros 24 = zs then 0 else if sealI id (zs.drop 8) = zs then 1 else -1 := rfl
  have HG := HG3
  have HBX := HB3
  clear hS3 HZ3 HL3 HGR2 HBLK2 HBLK HGR H8 HS HP
  by_cases e1 : zs = zeros 24
  · rw [if_pos e1] at hoc
    rw [if_pos e1.symm] at hwi
    rw [hoc, if_neg (by decide)] at hob
    have HOC := Lib.hid hoc
    have HOB := Lib.hid hob
    rw [hwi]
    clear hoc hob hwi hl e1
    go_wp2
    go_ret2
    exact ⟨none, 0, by rw [HOC.out, HOB.out]; rfl, fun h => absurd h (by rw [HOC.out]; decide), fun _ => ⟨rfl, rfl⟩, HG.out⟩
  · by_cases e2 : zs = sealI id (zs.drop 8)
    · rw [if_neg e1, if_pos e2] at hoc
      rw [if_neg (fun h => e1 h.symm), if_pos e2.symm] at hwi
      rw [hoc, if_pos rfl] at hob
      have HOC := Lib.hid hoc
      have HOB := Lib.hid hob
      rw [hwi]
      have hl8 : (zs.drop 8).length = 16 := by rw [List.length_drop, hl]
      have HL8 := Lib.hid hl8
      clear hoc hob hwi hl hl8 e1 e2
      go_wp2
      go_ret2
      exact ⟨some ⟨g, 8, none⟩, 16, by rw [HOC.out, HOB.out, HL8.out]; rfl, fun _ => ⟨g, rfl, hg, by rw [HOB.out]; exact HBX.out⟩, fun h => absurd HOC.out h, HG.out⟩
    · rw [if_neg e1, if_neg e2] at hoc
      rw [if_neg (fun h => e1 h.symm), if_neg (fun h => e2 h.symm)] at hwi
      rw [hoc, if_neg (by decide)] at hob
      have HOC := Lib.hid hoc
      have HOB := Lib.hid hob
      rw [hwi]
      clear hoc hob hwi hl e1 e2
      go_wp2
      go_ret2
      exact ⟨none, 0, by rw [HOC.out, HOB.out]; rfl, fun h => absurd h (by rw [HOC.out]; decide), fun _ => ⟨rfl, rfl⟩, HG.out⟩

theorem open_is {id : Int} {args : Array Value} {zs body : List Int} {w : World} {n : Nat} (h : Calls Try.prog 11 args w (OpenPost w id zs)) (hc : openC id zs = 0) (hb : openB id zs = body) (hn : body.length = n) :
    Calls Try.prog 11 args w fun e w' => ∃ g c, e = .returned (.tuple #[.slice (some ⟨g, 8, none⟩) n c, .int .i64 0]) ∧ w.heap.size ≤ g ∧ NBlk w' g 5 .u8 (sealI id body) ∧ Grow w w' :=
  h.mono fun e w' ⟨A, c, he, h1, _, h3⟩ => by
    subst hb hn
    obtain ⟨g, rfl, hg, hblk⟩ := h1 hc
    rw [hc] at he
    exact ⟨g, c, he, hg, hblk, h3⟩
theorem open_not {id k : Int} {args : Array Value} {zs : List Int} {w : World} (h : Calls Try.prog 11 args w (OpenPost w id zs)) (hc : openC id zs = k) (hk : k ≠ 0) :
    Calls Try.prog 11 args w fun e w' => e = .returned (.tuple #[.slice none 0 0, .int .i64 k]) ∧ Grow w w' :=
  h.mono fun e w' ⟨A, c, he, _, h2, h3⟩ => by
    subst hc
    obtain ⟨rfl, rfl⟩ := h2 hk
    have hb : openB id zs = [] := by unfold openB; rw [if_neg hk]
    rw [hb] at he
    exact ⟨he, h3⟩

end Go.Proofs.Ytmdafgonnkppoaa.PageC
