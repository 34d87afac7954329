/-
  Texts behind the statements of this seat: part 3.
-/
import Derived.Test.YtbnkpnllgoghnaaGreatQb
import Derived.RegionTactic
import Derived.Deep.CutRange
import Derived.Test.YtbnkpnllgoghnaaGreatQa
import Derived.Test.YtbnkpnllgoghnaaGreatRows
import Derived.Deep.Cut
import Derived.Deep.DeepCutAuto
import Derived.Deep.CutBlock
import Derived.WalkSpells
import Derived.Deep.AppendSrc
import Derived.Lib.AppendZeros
import Derived.Deep.AppendLies
import Derived.Lib.SliceRun
set_option linter.unusedVariables false

namespace Go.Proofs.YtbnkpnllgoghnaaGreat.DevX
open Go.ChangeShapes Go.WideShapes Go.ChangeAt Go.RowKit
open Go.Proofs.YtbnkpnllgoghnaaGreat.SumM Go.Proofs.YtbnkpnllgoghnaaGreat.Mem Go.Proofs.YtbnkpnllgoghnaaGreat.Blk Go.Proofs.YtbnkpnllgoghnaaGreat.PageM Go.Proofs.YtbnkpnllgoghnaaGreat.Str Go.Proofs.YtbnkpnllgoghnaaGreat.Dev Go.Proofs.YtbnkpnllgoghnaaGreat.LibC Go.Proofs.YtbnkpnllgoghnaaGreat.DevC Go.Proofs.YtbnkpnllgoghnaaGreat.DevM Go.Proofs.YtbnkpnllgoghnaaGreat.DevY Go.Proofs.YtbnkpnllgoghnaaGreat.DevK Go.Proofs.YtbnkpnllgoghnaaGreat.Stages
section
variable {w : World} {d D W : Nat} {G : Nat → Prop} {S : Dv}
/-- A device that has crashed, its first j pages settled. -/
def fallS (S : Dv) (bs : List Int) (j : Nat) : Dv := { S with dur := fun q => if q < j then fallen S bs q else S.dur q, down := true }
theorem cnt_mono (S : Dv) {a b : Nat} (h : a ≤ b) : cnt S a ≤ cnt S b := by
  induction b with
  | zero => obtain rfl : a = 0 := by omega
            exact Nat.le_refl _
  | succ b ih =>
    by_cases e : a = b + 1
    · subst e; exact Nat.le_refl _
    · have := ih (by omega)
      have e2 : cnt S (b + 1) = cnt S b + (if (S.wr b).isSome then 1 else 0) := rfl
      omega
theorem cnt_le (S : Dv) : ∀ j, cnt S j ≤ j
  | 0 => Nat.le_refl _
  | j + 1 => by
    have := cnt_le S j
    unfold cnt
    split <;> omega
theorem fate_out {bs : List Int} {t : Nat} (h : bs.length ≤ t / 4) : fate bs t = 0 := by
  unfold fate; rw [if_neg (by omega)]
/-- Where the bits are at their end the others are lost. -/
theorem fallen_out {bs : List Int} {j q : Nat} (h : bs.length ≤ cnt S j / 4) (hq : j ≤ q) : fallen S bs q = S.dur q := by
  unfold fallen
  cases S.wr q with
  | none => rfl
  | some z =>
    have := cnt_mono S hq
    show settleI (fate bs (cnt S q)) (S.dur q) z = S.dur q
    rw [fate_out (by have : cnt S j / 4 ≤ cnt S q / 4 := Nat.div_le_div_right this; omega)]
    rfl
theorem u8_and3 (m : Nat) (h : m < 256) : bits .and .u8 (m : Int) 3 = ((m % 4 : Nat) : Int) := by
  have : ∀ m : Fin 256, bits .and .u8 (m.val : Int) 3 = ((m.val % 4 : Nat) : Int) := by decide +kernel
  exact this ⟨m, h⟩
theorem two_bits {v : Int} (hv : U8 v) (e : Nat) : bits .and .u8 (v / 2 ^ e) 3 = ((v.toNat / 2 ^ e % 4 : Nat) : Int) := by
  obtain ⟨h1, h2⟩ := hv
  obtain ⟨V, rfl⟩ := Int.eq_ofNat_of_zero_le h1
  have h3 : ((V : Int) / 2 ^ e) = ((V / 2 ^ e : Nat) : Int) := by
    rw [Int.natCast_ediv, Int.natCast_pow]; rfl
  have h4 : V / 2 ^ e ≤ V := Nat.div_le_self _ _
  rw [h3, u8_and3 _ (by omega)]
  rfl
/-- The end: what is left is cleared. -/
theorem fall_end {wr : World} {bs : List Int} {j : Nat} (hdev : DevAt wr d D W G (fallS S bs j)) (hkk : Kept (Own d D W) w wr) (hq : ∀ q, j ≤ q → q < S.N → fallen S bs q = S.dur q) (hd : S.down = false) :
    wr.cell? ⟨d, 1, none⟩ = some (.slice (some ⟨W, 0, none⟩) S.N S.N) ∧
    (∀ ty, (Builtin.clear_ #[62] ty #[.slice (some ⟨W, 0, none⟩) S.N S.N]).run Tryz.prog wr = .ok (.tuple #[]) (wr.setCells W 0 (List.replicate S.N (.slice none 0 0)))) ∧
    DevAt (wr.setCells W 0 (List.replicate S.N (.slice none 0 0))) d D W G (crashS S bs) ∧ Kept (Own d D W) w (wr.setCells W 0 (List.replicate S.N (.slice none 0 0))) := by
  have hN : 1 ≤ S.N ∧ S.N ≤ 48 := hdev.size
  obtain ⟨wv, hwr, _⟩ := hdev.wr
  have hwr' : Row wr W S.N wv := hwr
  have c1 : wr.cell? ⟨d, 1, none⟩ = some (.slice (some ⟨W, 0, none⟩) S.N S.N) := hdev.c1
  refine ⟨c1, fun ty => Lib.run_clear_slice (P := Tryz.prog) wr 62 22 ty (.slice none 0 0) Tryz.underlying62 zero_sl rfl rfl W 0 S.N S.N (by omega) (fun q hq => by rw [Nat.zero_add, hwr'.cell hq]; rfl) (fun q _ => hwr'.frozen _), ?_, hkk.trans ((kept_setCells _ _ _).mono fun _ _ e => .inr (.inr e))⟩
  have hcr : crashS S bs = { S with dur := fallen S bs, wr := fun _ => none, down := true } := by
    unfold crashS
    rw [hd, if_neg (by decide)]
  rw [hcr]
  refine (hdev.clear).congr rfl rfl rfl rfl (fun p hp => ?_) (fun _ _ => rfl)
  have hp' : p < S.N := hp
  show fallen S bs p = (if p < j then fallen S bs p else S.dur p)
  by_cases e : p < j
  · rw [if_pos e]
  · rw [if_neg e]; exact hq p (by omega) hp'
set_option maxHeartbeats 1000000 in
theorem crash_good (h : DevAt w d D W G S) (A : Option Addr) (n cap B : Nat) (bs : List Int) (hd : S.down = false) (hs : ∀ w', Kept (Own d D W) w w' → Sl w' B .u8 A n bs) (hz : Bytes bs) (hm : n ≤ maxLen) (low : ∀ x, G x → x < w.heap.size) :
    Calls Tryz.prog 32 #[.pointer (some ⟨d, 0, none⟩), .slice A n cap] w (DevPost d D W G w (.bool true) (crashS S bs)) := by
  have q22 : ∀ (w : World) (a : Option Addr) (n c n' c' : Nat), (binOp .eql 22 (.slice a n c) (.slice none n' c')).run Tryz.prog w = .ok (.bool a.isNone) w := fun w a n c n' c' => Lib.run_eql_slice_nil w _ _ a n c n' c' Tryz.underlying22
  unfold maxLen at hm
  have hN := h.size
  have c4 := h.c4
  rw [hd] at c4
  have f4 := h.fr 4
  have H1 : Hid (DevAt (w.setCell ⟨d, 4, none⟩ (.bool true)) d D W G { S with down := true }) := h.field rfl rfl rfl rfl
  have HK1 : Hid (Kept (Own d D W) w (w.setCell ⟨d, 4, none⟩ (.bool true))) := (Kept.refl _ _).setCell (fun _ => .inl rfl) _
  have HM0 : Hid (DevAt (w.setCell ⟨d, 4, none⟩ (.bool true)) d D W G (fallS S bs 0)) := H1.out.congr rfl rfl rfl rfl (fun p _ => by show (if p < 0 then fallen S bs p else S.dur p) = S.dur p; rw [if_neg (by omega)]) (fun _ _ => rfl)
  have c1 := H1.out.c1
  have c1' : (w.setCell ⟨d, 4, none⟩ (.bool true)).cell? ⟨d, 1, none⟩ = some (.slice (some ⟨W, 0, none⟩) S.N S.N) := c1
  have HS := Lib.hid hs
  have HLOW := Lib.hid low
  have HCR : Hid (crashS S bs = { S with dur := fallen S bs, wr := fun _ => none, down := true }) := by
    show crashS S bs = { S with dur := fallen S bs, wr := fun _ => none, down := true }
    unfold crashS
    rw [hd, if_neg (by decide)]
  have hl := (hs w (Kept.refl _ _)).len
  have HL := Lib.hid hl
  have HDN := Lib.hid hd
  clear h hs low hd c1 hl
  go_enter Tryz.func32, Tryz.ntmps32
  go_wp2
  go_step3
  go_wp2
  go_step3
  go_wp2
  clear c1' c4 f4
  go_loopg [5, 24] S.N (fun g t i wr => ∃ j : Nat, j + g = S.N ∧ i = .int .i64 (j : Int) ∧ t = .int .i64 (cnt S j : Int) ∧ cnt S j / 4 ≤ n ∧ DevAt wr d D W G (fallS S bs j) ∧ Kept (Own d D W) w wr)
  case atStart => exact ⟨0, by omega, rfl, rfl, by simp [cnt], HM0.out, HK1.out⟩
  case round =>
    obtain ⟨j, hg, rfl, rfl, hcn, hdev, hkk⟩ := hrel
    have HDJ := Lib.hid hdev
    have HKJ := Lib.hid hkk
    have HG := Lib.hid hg
    have hcl := cnt_le S j
    by_cases hj : j < S.N
    · have hjz : (j : Int) < (S.N : Int) := by omega
      obtain ⟨wv, hwr, hwi⟩ := hdev.wr
      have hwk := hwi j hj
      have r1 := hwr.cell (i := j) hj
      have HCN : Hid (cnt S (j + 1) = cnt S j + (if (S.wr j).isSome then 1 else 0)) := rfl
      have HFA : Hid (fallen S bs j = match S.wr j with | none => S.dur j | some z => settleI (fate bs (cnt S j)) (S.dur j) z) := rfl
      clear hdev hwr hwi hkk hg
      generalize wv j = y at *
      cases ho : S.wr j with
      | none =>
        obtain rfl : y = .slice none 0 0 := by
          have : WImg wr G y (S.wr j) := hwk
          rw [ho] at this
          exact this
        rw [ho] at HCN HFA
        have HNX : Hid (DevAt wr d D W G (fallS S bs (j + 1))) := HDJ.out.congr rfl rfl rfl rfl (fun p _ => by
          show (if p < j + 1 then fallen S bs p else S.dur p) = (if p < j then fallen S bs p else S.dur p)
          by_cases e : p = j
          · subst e; rw [if_pos (by omega), if_neg (by omega)]; exact HFA.out
          · by_cases e2 : p < j
            · rw [if_pos (by omega), if_pos e2]
            · rw [if_neg (by omega), if_neg e2]) (fun _ _ => rfl)
        clear ho hwk
        go_wp2
        go_roundg (gk - 1)
        case measure => have := HG.out; omega
        case rel => exact ⟨j + 1, by have := HG.out; omega, by go_num, by rw [HCN.out]; rfl, by rw [HCN.out]; exact hcn, HNX.out, HKJ.out⟩
      | some z =>
        have hi : Img wr G y z := by
          have : WImg wr G y (S.wr j) := hwk
          rw [ho] at this
          exact this
        obtain ⟨b, c, rfl, h24, hm24, hsl⟩ := hi.sl
        rw [ho] at HCN HFA
        clear hwk hsl hi
        by_cases hend : cnt S j / 4 = n
        · have hendz : (((cnt S j : Nat) : Int) / 4 == (n : Int)) = true := by rw [beq_iff_eq]; omega
          obtain ⟨c1, hclr, hF, hKF⟩ := fall_end HDJ.out HKJ.out (fun q hq _ => fallen_out (by rw [HL.out]; omega) hq) HDN.out
          have HF := Lib.hid hF
          have HKF := Lib.hid hKF
          clear hend hcn hF hKF
          go_wp2
          go_ret
          exact ⟨rfl, HF.out, HKF.out⟩
        · have hendz : (((cnt S j : Nat) : Int) / 4 == (n : Int)) = false := by rw [beq_eq_false_iff_ne]; omega
          have hlt : cnt S j / 4 < n := by omega
          obtain ⟨ab, ao, rfl, hab, hac⟩ := (HS.out wr HKJ.out).at_ (by omega)
          have hcell := hac (cnt S j / 4) hlt
          have hu : U8 (bs.getD (cnt S j / 4) 0) := hz _ (getD_mem (by rw [HL.out]; exact hlt))
          have HSET := Lib.hid (settle_any HDJ.out j hj z ho (fun x hx => Nat.lt_of_lt_of_le (HLOW.out x hx) HKJ.out.size))
          have HFT : Hid (fate bs (cnt S j) = (bs.getD (cnt S j / 4) 0).toNat / 2 ^ (cnt S j % 4 * 2) % 4) := by
            show fate bs (cnt S j) = _
            unfold fate
            rw [if_pos (by rw [HL.out]; exact hlt)]
          have HFT4 := Lib.hid (fate_lt bs (cnt S j))
          clear ho hac
          generalize bs.getD (cnt S j / 4) 0 = v at *
          generalize fate bs (cnt S j) = f at *
          generalize cnt S j = t at *
          have ht0 : (0 : Int) ≤ (t : Int) / 4 := by omega
          have ht1 : (t : Int) / 4 < (n : Int) := by omega
          clear hlt hend
          have HFE : Hid (bits .and .u8 (v / 2 ^ (t % 4 * 2)) 3 = (f : Int)) := by
            show _ = _
            rw [HFT.out]
            exact two_bits hu _
          have HNX := HSET.out _ f HFE.out HFT4.out
          have HNY := Lib.hid HNX
          clear HNX HSET
          go_wp2_with (go_at_call 85; (with_reducible refine HNY.out.mono ?_); rintro e w2 ⟨rfl, hdev2, hk2⟩; have HD2 := Lib.hid hdev2; have HK2 := Lib.hid hk2; clear hdev2 hk2)
          have HN2 : Hid (DevAt w2 d D W G (fallS S bs (j + 1))) := HD2.out.congr rfl rfl rfl rfl (fun p _ => by
            show (if p < j + 1 then fallen S bs p else S.dur p) = (if p = j then settleI f (if j < j then fallen S bs j else S.dur j) z else (if p < j then fallen S bs p else S.dur p))
            by_cases e : p = j
            · subst e; rw [if_pos (by omega), if_pos rfl, if_neg (by omega)]; exact HFA.out
            · rw [if_neg e]
              by_cases e2 : p < j
              · rw [if_pos (by omega), if_pos e2]
              · rw [if_neg (by omega), if_neg e2]) (fun _ _ => rfl)
          go_roundg (gk - 1)
          case measure => have := HG.out; omega
          case rel => exact ⟨j + 1, by have := HG.out; omega, by go_num, by rw [HCN.out]; go_num, by rw [HCN.out]; show (t + 1) / 4 ≤ n; omega, HN2.out, HKJ.out.trans HK2.out⟩
    · have hjN : j = S.N := by omega
      subst hjN
      obtain ⟨c1, hclr, hF, hKF⟩ := fall_end hdev hkk (fun q hq hq' => absurd hq' (by omega)) HDN.out
      have HF := Lib.hid hF
      have HKF := Lib.hid hKF
      clear hdev hkk hg hcn hcl hF hKF
      go_wp2
      go_ret
      exact ⟨rfl, HF.out, HKF.out⟩
end
end Go.Proofs.YtbnkpnllgoghnaaGreat.DevX

namespace Go.Proofs.YtbnkpnllgoghnaaGreat.DevN
open Go.ChangeShapes Go.WideShapes Go.ChangeAt Go.RowKit
open Go.Proofs.YtbnkpnllgoghnaaGreat.SumM Go.Proofs.YtbnkpnllgoghnaaGreat.Mem Go.Proofs.YtbnkpnllgoghnaaGreat.Blk Go.Proofs.YtbnkpnllgoghnaaGreat.PageM Go.Proofs.YtbnkpnllgoghnaaGreat.Str Go.Proofs.YtbnkpnllgoghnaaGreat.Dev Go.Proofs.YtbnkpnllgoghnaaGreat.LibC Go.Proofs.YtbnkpnllgoghnaaGreat.DevC Go.Proofs.YtbnkpnllgoghnaaGreat.Stages
section
variable {w : World}
theorem new_bad (p : Int) (h : ¬ (1 ≤ p ∧ p ≤ 48)) : Calls Tryz.prog 35 #[.int .i64 p] w fun e w' => e = .returned (.pointer none) ∧ w = w' := by
  by_cases h0 : p < 1
  · clear h
    go_enter Tryz.func35, Tryz.ntmps35
    go_wp2
    go_ret
    exact ⟨rfl, rfl⟩
  · have h1 : 48 < p := by omega
    clear h
    go_enter Tryz.func35, Tryz.ntmps35
    go_wp2
    go_ret
    exact ⟨rfl, rfl⟩
/-- What the blocks of a new device are. -/
structure NewAt (w wx : World) (d D W N : Nat) (dv : Nat → Value) : Prop where
  disk : Blk wx d 99 [.slice (some ⟨D, 0, none⟩) N N, .slice (some ⟨W, 0, none⟩) N N, .int .i64 0, .int .i64 0, .bool false]
  dur : Row wx D N dv
  wr : Row wx W N fun _ => .slice none 0 0
  ne : d ≠ D ∧ d ≠ W ∧ D ≠ W
  old : w.heap.size ≤ d ∧ w.heap.size ≤ D ∧ w.heap.size ≤ W
  grow : Grow w wx
/-- A new device, its first pages not blank yet. -/
def HalfNew (w : World) (N : Nat) (v : Value) (wx : World) : Prop := ∃ d D W, v = .pointer (some ⟨d, 0, none⟩) ∧ NewAt w wx d D W N fun _ => .slice none 0 0
theorem row_made (w : World) (n : Nat) : Row (w.alloc (.cells (madeCells #[Value.slice none 0 0] n) 22)) w.heap.size n fun _ => .slice none 0 0 :=
  ⟨_, _, heap_alloc_new w _, by simp [size_madeCells], fun i hi => by simp [madeCells, hi, Nat.mod_one]⟩
theorem new_half (w : World) (N D W : Nat) (h : (D = w.heap.size ∧ W = w.heap.size + 1) ∨ (D = w.heap.size + 1 ∧ W = w.heap.size)) :
    NewAt w ((((w.alloc (.cells (madeCells #[Value.slice none 0 0] N) 22)).alloc (.cells (madeCells #[Value.slice none 0 0] N) 22)).alloc (.cells #[.slice (some ⟨D, 0, none⟩) N N, .slice (some ⟨W, 0, none⟩) N N, .int .i64 0, .int .i64 0, .bool false] 99)).drew) (w.heap.size + 1 + 1) D W N fun _ => .slice none 0 0 := by
  have hb := Blk.new ((w.alloc (.cells (madeCells #[Value.slice none 0 0] N) 22)).alloc (.cells (madeCells #[Value.slice none 0 0] N) 22)) 99 [.slice (some ⟨D, 0, none⟩) N N, .slice (some ⟨W, 0, none⟩) N N, .int .i64 0, .int .i64 0, .bool false]
  have g1 : Grow (w.alloc (.cells (madeCells #[Value.slice none 0 0] N) 22)) ((w.alloc (.cells (madeCells #[Value.slice none 0 0] N) 22)).alloc (.cells (madeCells #[Value.slice none 0 0] N) 22)) := (Kept.refl _ _).alloc _
  have g2 : Grow ((w.alloc (.cells (madeCells #[Value.slice none 0 0] N) 22)).alloc (.cells (madeCells #[Value.slice none 0 0] N) 22)) ((((w.alloc (.cells (madeCells #[Value.slice none 0 0] N) 22)).alloc (.cells (madeCells #[Value.slice none 0 0] N) 22)).alloc (.cells #[.slice (some ⟨D, 0, none⟩) N N, .slice (some ⟨W, 0, none⟩) N N, .int .i64 0, .int .i64 0, .bool false] 99)).drew) := ((Kept.refl _ _).alloc _).drew
  have r0 := ((row_made w N).grow g1).grow g2
  have r1 := (row_made (w.alloc (.cells (madeCells #[Value.slice none 0 0] N) 22)) N).grow g2
  have e2 : ((w.alloc (.cells (madeCells #[Value.slice none 0 0] N) 22)).alloc (.cells (madeCells #[Value.slice none 0 0] N) 22)).heap.size = w.heap.size + 1 + 1 := by simp
  have e1 : (w.alloc (.cells (madeCells #[Value.slice none 0 0] N) 22)).heap.size = w.heap.size + 1 := by simp
  rw [e2] at hb
  rw [e1] at r1
  have hgr : Grow w ((((w.alloc (.cells (madeCells #[Value.slice none 0 0] N) 22)).alloc (.cells (madeCells #[Value.slice none 0 0] N) 22)).alloc (.cells #[.slice (some ⟨D, 0, none⟩) N N, .slice (some ⟨W, 0, none⟩) N N, .int .i64 0, .int .i64 0, .bool false] 99)).drew) := (((Kept.refl _ w).alloc _).trans g1).trans g2
  rcases h with ⟨rfl, rfl⟩ | ⟨rfl, rfl⟩
  · exact ⟨hb.drew, r0, r1, ⟨by omega, by omega, by omega⟩, ⟨by omega, by omega, by omega⟩, hgr⟩
  · exact ⟨hb.drew, r1, r0, ⟨by omega, by omega, by omega⟩, ⟨by omega, by omega, by omega⟩, hgr⟩
def newG (w : World) (d D W k : Nat) : Prop := k < w.heap.size ∨ Own d D W k
/-- What New tells of a number that may be. -/
def NewPost (w : World) (N : Nat) (e : Ending) (w' : World) : Prop :=
  ∃ d D W, e = .returned (.pointer (some ⟨d, 0, none⟩)) ∧ DevAt w' d D W (newG w d D W) (newS N) ∧ (w.heap.size ≤ d ∧ w.heap.size ≤ D ∧ w.heap.size ≤ W) ∧ Grow w w'
set_option maxHeartbeats 1000000 in
theorem new_good (N : Nat) (h1 : 1 ≤ N) (h48 : N ≤ 48) : Calls Tryz.prog 35 #[.int .i64 (N : Int)] w (NewPost w N) := by
  have hmk := fun w => run_make_row' (P := Tryz.prog) 62 22 (.slice none 0 0) 24 Tryz.underlying62 infoSl rfl .i64 .i64 N (by omega) (by omega) w
  have hz0 : ¬ ((N : Int) < 1) := by omega
  have hz1 : (N : Int) ≤ 48 := by omega
  go_enter Tryz.func35, Tryz.ntmps35
  go_upto_region 3 with (fail)
  go_cut [3] from 11 to 16 (fun v wx => HalfNew w N v wx)
  case first =>
    have HN1 := Lib.hid (new_half w N w.heap.size (w.heap.size + 1) (.inl ⟨rfl, rfl⟩))
    have HN2 := Lib.hid (new_half w N (w.heap.size + 1) w.heap.size (.inr ⟨rfl, rfl⟩))
    go_region
    · go_wp2_with fail
      go_meet
      exact ⟨_, _, _, rfl, HN1.out⟩
    · go_wp2_with fail
      go_meet
      exact ⟨_, _, _, rfl, HN2.out⟩
  case rest =>
    obtain ⟨d, D, W, rfl, hnew⟩ := hcut
    clear hmk
    have HW := Lib.hid hnew
    have hc0 : wc.cell? ⟨d, 0, none⟩ = some (.slice (some ⟨D, 0, none⟩) N N) := by rw [hnew.disk.cell]; rfl
    have hDl := hnew.dur.lt
    clear hnew
    go_wp2
    clear hc0
    go_loopg [22] N (fun g i wr => ∃ (j : Nat) (dv : Nat → Value), j + g = N ∧ i = .int .i64 (j : Int) ∧ NewAt w wr d D W N dv ∧ ∀ p, p < j → Img wr (newG w d D W) (dv p) (zeros 24))
    case atStart => exact ⟨0, _, by omega, rfl, HW.out, fun p hp => absurd hp (by omega)⟩
    case round =>
      obtain ⟨j, dv, hg, rfl, hnew, himg⟩ := hrel
      have HN := Lib.hid hnew
      have HI := Lib.hid himg
      have HG := Lib.hid hg
      by_cases hj : j < N
      · have hjz : (j : Int) < (N : Int) := by omega
        have c0 : wr.cell? ⟨d, 0, none⟩ = some (.slice (some ⟨D, 0, none⟩) N N) := by rw [hnew.disk.cell]; rfl
        have q0 := up_cell (F := (· = D)) (w := wr.drew) c0 hnew.ne.1
        clear hnew himg hg c0
        go_upto_region 7 with (fail)
        refine wp_region_stages (Kept (· = D)) (kept_refl _) (kept_trans _) [([0, 1, 2, 3, 4], 5), ([6], 7)] [] (by kernel_rfl) (by kernel_rfl) ?_
        simp only [selSt, sel, List.map_cons, List.map_nil, List.getD_cons_succ, List.getD_cons_zero]
        refine st_cons fun K1 hK1 => ?_
        repeat (go_big_quiet_step (fail))
        refine wpQuiet_nil ?_
        clear q0
        go_wp2_with (go_at_call 84; (with_reducible refine (blank_any _).mono ?_); rintro e w2 ⟨g, rfl, hg, hblk, hgr⟩; have HGG := Lib.hid hg; have HB := Lib.hid hblk; have HGR := Lib.hid hgr; clear hg hblk hgr)
        refine norm_up (hK1 _ _ HGR.out.kept ?_)
        clear hK1 K1
        have hG2 : Grow wr w2 := (Kept.drew' wr).trans HGR.out
        have hd2 := (HN.out.dur.grow hG2)
        have r2 := hd2.cell (i := j) hj
        have f2 := hd2.frozen j
        have HIM : Hid (Img w2 (newG w d D W) (.slice (some ⟨g, 0, none⟩) 24 24) (zeros 24)) := by
          refine Img.of_row (Row.of_blk HB.out (by simp [zeros_len]) (fun i hi => ?_)) (zeros_len 24) (zeros_bytes 24) (Nat.le_refl _) (by unfold maxLen; omega) (fun x => ?_)
          · have hi' : i < (zeros 24).length := by rw [zeros_len]; exact hi
            simp [List.getD, List.getElem?_eq_getElem hi']
          · have h1 := HGG.out
            simp at h1
            have h2 := HN.out.grow.size
            have h3 := HN.out.disk.lt
            have h4 := HN.out.dur.lt
            have h5 := HN.out.wr.lt
            rcases x with x | x | x | x <;> omega
        have HNX : Hid (NewAt w (w2.setCell ⟨D, j, none⟩ (.slice (some ⟨g, 0, none⟩) 24 24)) d D W N (fun q => if q = j then .slice (some ⟨g, 0, none⟩) 24 24 else dv q)) :=
          ⟨(HN.out.disk.grow hG2).other (by have := HN.out.ne.1; exact this) _, hd2.set j _, (HN.out.wr.grow hG2).other (by have := HN.out.ne.2.2; exact fun e => this e.symm) _, HN.out.ne, HN.out.old,
            (HN.out.grow.trans hG2).setCell (fun x => absurd x (by have := HN.out.old.2.1; show ¬ D < _; omega)) _⟩
        have HIX : Hid (∀ p, p < j + 1 → Img (w2.setCell ⟨D, j, none⟩ (.slice (some ⟨g, 0, none⟩) 24 24)) (newG w d D W) (if p = j then .slice (some ⟨g, 0, none⟩) 24 24 else dv p) (zeros 24)) := fun p hp => by
          have hDG : ∀ k, k = D → newG w d D W k := fun k e => .inr (.inr (.inl e))
          by_cases e : p = j
          · rw [if_pos e]; exact HIM.out.kept (kept_set _ _ _ _) hDG
          · rw [if_neg e]; exact ((HI.out p (by omega)).kept hG2 (fun _ x => x.elim)).kept (kept_set _ _ _ _) hDG
        clear hG2 hd2
        refine st_cons fun K2 hK2 => ?_
        repeat (go_big_quiet_step (fail))
        refine wpQuiet_nil ?_
        go_wp2
        refine norm_up (hK2 _ _ (kept_set _ _ _ _) (st_nil fun K3 hK3 => wpQuiet_nil (hK3 _ ?_)))
        clear hK2 K2 K3 hK3 r2 f2
        go_wp2
        go_roundg (gk - 1)
        case measure => have := HG.out; omega
        case rel => exact ⟨j + 1, _, by have := HG.out; omega, by go_num, HNX.out, HIX.out⟩
      · have hjN : j = N := by omega
        subst hjN
        clear hnew himg hg
        go_wp2
        go_ret
        refine ⟨d, D, W, rfl, ⟨HN.out.disk, ⟨dv, HN.out.dur, fun p hp => HI.out p hp⟩, ⟨_, HN.out.wr, fun p hp => rfl⟩, HN.out.ne, fun k hk => .inr hk, ⟨h1, h48⟩⟩, HN.out.old, HN.out.grow⟩
end
end Go.Proofs.YtbnkpnllgoghnaaGreat.DevN

namespace Go.Proofs.YtbnkpnllgoghnaaGreat.Told3
open Go.ChangeShapes Go.WideShapes Go.ChangeAt Go.RowKit
open Go.Proofs.YtbnkpnllgoghnaaGreat.SumM Go.Proofs.YtbnkpnllgoghnaaGreat.Mem Go.Proofs.YtbnkpnllgoghnaaGreat.Blk Go.Proofs.YtbnkpnllgoghnaaGreat.PageM Go.Proofs.YtbnkpnllgoghnaaGreat.Str Go.Proofs.YtbnkpnllgoghnaaGreat.Dev Go.Proofs.YtbnkpnllgoghnaaGreat.LibC Go.Proofs.YtbnkpnllgoghnaaGreat.DevC Go.Proofs.YtbnkpnllgoghnaaGreat.DevM Go.Proofs.YtbnkpnllgoghnaaGreat.DevY Go.Proofs.YtbnkpnllgoghnaaGreat.DevK Go.Proofs.YtbnkpnllgoghnaaGreat.DevX Go.Proofs.YtbnkpnllgoghnaaGreat.DevN Go.Proofs.YtbnkpnllgoghnaaGreat.Stages
section
variable {w : World} {d D W B : Nat} {G : Nat → Prop} {S : Dv}
theorem back (h : DevAt w d D W (fun k => G k ∨ B ≤ k) S) (ho : ∀ k, Own d D W k → G k) : DevAt w d D W G S := h.turn (fun _ _ hg => .inl hg) ho
end
end Go.Proofs.YtbnkpnllgoghnaaGreat.Told3

namespace Go.Proofs.YtbnkpnllgoghnaaGreat.DevS
open Go.ChangeShapes Go.WideShapes Go.ChangeAt Go.RowKit
open Go.Proofs.YtbnkpnllgoghnaaGreat.SumM Go.Proofs.YtbnkpnllgoghnaaGreat.Mem Go.Proofs.YtbnkpnllgoghnaaGreat.Blk Go.Proofs.YtbnkpnllgoghnaaGreat.PageM Go.Proofs.YtbnkpnllgoghnaaGreat.Str Go.Proofs.YtbnkpnllgoghnaaGreat.Dev Go.Proofs.YtbnkpnllgoghnaaGreat.LibC Go.Proofs.YtbnkpnllgoghnaaGreat.DevC Go.Proofs.YtbnkpnllgoghnaaGreat.DevM Go.Proofs.YtbnkpnllgoghnaaGreat.DevY Go.Proofs.YtbnkpnllgoghnaaGreat.DevK Go.Proofs.YtbnkpnllgoghnaaGreat.DevX Go.Proofs.YtbnkpnllgoghnaaGreat.DevN Go.Proofs.YtbnkpnllgoghnaaGreat.Told3
theorem cur_acc (S : Dv) (p : Nat) : cur (accS S) p = cur S p := by unfold cur; rw [accS_wr, accS_dur]
theorem cur_put (S : Dv) (k : Nat) (z : List Int) (p : Nat) : cur (putS S k z) p = if p = k then z else cur S p := by
  unfold cur putS
  show ((if p = k then some z else S.wr p).getD (S.dur p)) = _
  split <;> rfl
end Go.Proofs.YtbnkpnllgoghnaaGreat.DevS

namespace Go.Proofs.YtbnkpnllgoghnaaGreat.RefD
open Go.ChangeShapes Go.WideShapes Go.ChangeAt Go.RowKit
open Go.Proofs.YtbnkpnllgoghnaaGreat.SumM Go.Proofs.YtbnkpnllgoghnaaGreat.Mem Go.Proofs.YtbnkpnllgoghnaaGreat.Blk Go.Proofs.YtbnkpnllgoghnaaGreat.PageM Go.Proofs.YtbnkpnllgoghnaaGreat.Str Go.Proofs.YtbnkpnllgoghnaaGreat.Dev Go.Proofs.YtbnkpnllgoghnaaGreat.LibC Go.Proofs.YtbnkpnllgoghnaaGreat.DevC Go.Proofs.YtbnkpnllgoghnaaGreat.DevM Go.Proofs.YtbnkpnllgoghnaaGreat.DevY Go.Proofs.YtbnkpnllgoghnaaGreat.DevK Go.Proofs.YtbnkpnllgoghnaaGreat.DevX Go.Proofs.YtbnkpnllgoghnaaGreat.DevN Go.Proofs.YtbnkpnllgoghnaaGreat.Told3 Go.Proofs.YtbnkpnllgoghnaaGreat.DevS Go.Proofs.YtbnkpnllgoghnaaGreat.Stages
/-- The blocks, and the capacities of the three rows. -/
structure Rf where
  m : Nat
  A : Nat
  T : Nat
  V : Nat
  cA : Nat
  cT : Nat
  cV : Nat
def POwn (r : Rf) (k : Nat) : Prop := k = r.m ∨ k = r.A ∨ k = r.T ∨ k = r.V
def strV (z : List Int) : Value := .string (strOfNums z)
/-- The three rows: what is safe, what was written last, what waits. -/
structure Rows3 (w : World) (r : Rf) (n bad N : Nat) (down : Bool) (s t : Nat → List Int) (v : Nat → Bool) : Prop where
  blk : Blk w r.m 101 [.slice (some ⟨r.A, 0, none⟩) N r.cA, .slice (some ⟨r.T, 0, none⟩) N r.cT, .slice (some ⟨r.V, 0, none⟩) N r.cV, .int .i64 n, .int .i64 bad, .bool down]
  safe : Row w r.A N fun p => strV (s p)
  tail : Row w r.T N fun p => strV (t p)
  wait : Row w r.V N fun p => .bool (v p)
  ne : r.m ≠ r.A ∧ r.m ≠ r.T ∧ r.m ≠ r.V ∧ r.A ≠ r.T ∧ r.A ≠ r.V ∧ r.T ≠ r.V
  size : 1 ≤ N ∧ N ≤ 48
  ok : ∀ p, p < N → (s p).length = 24 ∧ (t p).length = 24
/-- A device as the document has it: what was written last is told of one that is not down alone. -/
def RefAt (w : World) (r : Rf) (S : Dv) : Prop := ∃ t : Nat → List Int, Rows3 w r S.n S.bad S.N S.down S.dur t (fun p => (S.wr p).isSome) ∧ (S.down = false → ∀ p, p < S.N → t p = cur S p)
section
variable {w w' : World} {r : Rf} {n bad N : Nat} {down : Bool} {s t : Nat → List Int} {v : Nat → Bool} {F : Nat → Prop} {S : Dv}
theorem Rows3.kept (h : Rows3 w r n bad N down s t v) (hk : Kept F w w') (hF : ∀ k, POwn r k → ¬ F k) : Rows3 w' r n bad N down s t v :=
  ⟨h.blk.kept hk (hF _ (.inl rfl)), h.safe.kept hk (hF _ (.inr (.inl rfl))), h.tail.kept hk (hF _ (.inr (.inr (.inl rfl)))), h.wait.kept hk (hF _ (.inr (.inr (.inr rfl)))), h.ne, h.size, h.ok⟩
theorem RefAt.kept (h : RefAt w r S) (hk : Kept F w w') (hF : ∀ k, POwn r k → ¬ F k) : RefAt w' r S := by
  obtain ⟨t, h1, h2⟩ := h
  exact ⟨t, h1.kept hk hF, h2⟩
theorem RefAt.grow (h : RefAt w r S) (hk : Grow w w') : RefAt w' r S := h.kept hk (fun _ _ x => x)
theorem Rows3.grow (h : Rows3 w r n bad N down s t v) (hk : Grow w w') : Rows3 w' r n bad N down s t v := h.kept hk (fun _ _ x => x)
theorem Rows3.lt (h : Rows3 w r n bad N down s t v) : ∀ k, POwn r k → k < w.heap.size := by
  intro k hk
  have h1 := h.blk.lt
  have h2 := h.safe.lt
  have h3 := h.tail.lt
  have h4 := h.wait.lt
  rcases hk with rfl | rfl | rfl | rfl <;> omega
theorem RefAt.lt (h : RefAt w r S) : ∀ k, POwn r k → k < w.heap.size := by
  obtain ⟨t, h1, _⟩ := h
  exact h1.lt
theorem Rows3.c0 (h : Rows3 w r n bad N down s t v) : w.cell? ⟨r.m, 0, none⟩ = some (.slice (some ⟨r.A, 0, none⟩) N r.cA) := by rw [h.blk.cell]; rfl
theorem Rows3.c1 (h : Rows3 w r n bad N down s t v) : w.cell? ⟨r.m, 1, none⟩ = some (.slice (some ⟨r.T, 0, none⟩) N r.cT) := by rw [h.blk.cell]; rfl
theorem Rows3.c2 (h : Rows3 w r n bad N down s t v) : w.cell? ⟨r.m, 2, none⟩ = some (.slice (some ⟨r.V, 0, none⟩) N r.cV) := by rw [h.blk.cell]; rfl
theorem Rows3.c3 (h : Rows3 w r n bad N down s t v) : w.cell? ⟨r.m, 3, none⟩ = some (.int .i64 n) := by rw [h.blk.cell]; rfl
theorem Rows3.c4 (h : Rows3 w r n bad N down s t v) : w.cell? ⟨r.m, 4, none⟩ = some (.int .i64 bad) := by rw [h.blk.cell]; rfl
theorem Rows3.c5 (h : Rows3 w r n bad N down s t v) : w.cell? ⟨r.m, 5, none⟩ = some (.bool down) := by rw [h.blk.cell]; rfl
theorem Rows3.fr (h : Rows3 w r n bad N down s t v) (i : Nat) : w.frozen? ⟨r.m, i, none⟩ = false := h.blk.frozen i
/-- A store into a number of its own. -/
theorem Rows3.field {n' bad' : Nat} {down' : Bool} {i : Nat} {x : Value} (h : Rows3 w r n bad N down s t v)
    (hv : [.slice (some ⟨r.A, 0, none⟩) N r.cA, .slice (some ⟨r.T, 0, none⟩) N r.cT, .slice (some ⟨r.V, 0, none⟩) N r.cV, .int .i64 n', .int .i64 bad', .bool down'] = ([.slice (some ⟨r.A, 0, none⟩) N r.cA, .slice (some ⟨r.T, 0, none⟩) N r.cT, .slice (some ⟨r.V, 0, none⟩) N r.cV, .int .i64 n, .int .i64 bad, .bool down] : List Value).set i x) :
    Rows3 (w.setCell ⟨r.m, i, none⟩ x) r n' bad' N down' s t v := by
  have hk := kept_set w r.m i x
  have hne := h.ne
  refine ⟨?_, h.safe.kept hk (fun e => hne.1 e.symm), h.tail.kept hk (fun e => hne.2.1 e.symm), h.wait.kept hk (fun e => hne.2.2.1 e.symm), hne, h.size, h.ok⟩
  show Blk _ _ _ _
  rw [hv]
  exact h.blk.set i x
theorem Rows3.setA {k : Nat} {z : List Int} (h : Rows3 w r n bad N down s t v) (hz : z.length = 24) : Rows3 (w.setCell ⟨r.A, k, none⟩ (strV z)) r n bad N down (fun p => if p = k then z else s p) t v := by
  have hk := kept_set w r.A k (strV z)
  have hne := h.ne
  refine ⟨h.blk.kept hk (fun e => hne.1 e), (h.safe.set k (strV z)).congr fun i _ => ?_, h.tail.kept hk (fun e => hne.2.2.2.1 e.symm), h.wait.kept hk (fun e => hne.2.2.2.2.1 e.symm), hne, h.size, fun p hp => ⟨?_, (h.ok p hp).2⟩⟩
  · show (if i = k then strV z else strV (s i)) = strV (if i = k then z else s i)
    split <;> rfl
  · show (if p = k then z else s p).length = 24
    split
    · exact hz
    · exact (h.ok p hp).1
theorem Rows3.setT {k : Nat} {z : List Int} (h : Rows3 w r n bad N down s t v) (hz : z.length = 24) : Rows3 (w.setCell ⟨r.T, k, none⟩ (strV z)) r n bad N down s (fun p => if p = k then z else t p) v := by
  have hk := kept_set w r.T k (strV z)
  have hne := h.ne
  refine ⟨h.blk.kept hk (fun e => hne.2.1 e), h.safe.kept hk (fun e => hne.2.2.2.1 e), (h.tail.set k (strV z)).congr fun i _ => ?_, h.wait.kept hk (fun e => hne.2.2.2.2.2 e.symm), hne, h.size, fun p hp => ⟨(h.ok p hp).1, ?_⟩⟩
  · show (if i = k then strV z else strV (t i)) = strV (if i = k then z else t i)
    split <;> rfl
  · show (if p = k then z else t p).length = 24
    split
    · exact hz
    · exact (h.ok p hp).2
/-- The same said otherwise. -/
theorem Rows3.congr {s' t' : Nat → List Int} {v' : Nat → Bool} (h : Rows3 w r n bad N down s t v) (h1 : ∀ p, p < N → s' p = s p) (h2 : ∀ p, p < N → t' p = t p) (h3 : ∀ p, p < N → v' p = v p) : Rows3 w r n bad N down s' t' v' :=
  ⟨h.blk, h.safe.congr fun i hi => by show strV _ = strV _; rw [h1 i hi], h.tail.congr fun i hi => by show strV _ = strV _; rw [h2 i hi], h.wait.congr fun i hi => by show Value.bool _ = .bool _; rw [h3 i hi], h.ne, h.size, fun p hp => by rw [h1 p hp, h2 p hp]; exact h.ok p hp⟩
end
end Go.Proofs.YtbnkpnllgoghnaaGreat.RefD

namespace Go.Proofs.YtbnkpnllgoghnaaGreat.Rowed
open Go.RowKit
open Go.Proofs.YtbnkpnllgoghnaaGreat.Mem Go.Proofs.YtbnkpnllgoghnaaGreat.Blk Go.Proofs.YtbnkpnllgoghnaaGreat.ListM
/-- Block b holds in its first n cells the values 'f i', and may be written. -/
def Row (w : World) (b n : Nat) (f : Nat → Value) : Prop := ∃ cur t, w.heap[b]? = some (.cells cur t (0, 0)) ∧ n ≤ cur.size ∧ ∀ i, i < n → cur[i]? = some (f i)
section
variable {w w' : World} {b n : Nat} {f g : Nat → Value} {F : Nat → Prop}
theorem Row.lt (h : Row w b n f) : b < w.heap.size := by
  obtain ⟨c, t, hb, _, _⟩ := h
  exact (Array.getElem?_eq_some_iff.1 hb).1
theorem Row.cell (h : Row w b n f) {i : Nat} (hi : i < n) : w.cell? ⟨b, i, none⟩ = some (f i) := by
  obtain ⟨c, t, hb, _, hc⟩ := h
  simp [World.cell?, hb, hc i hi]
theorem Row.frozen (h : Row w b n f) (i : Nat) : w.frozen? ⟨b, i, none⟩ = false := by
  obtain ⟨c, t, hb, _, _⟩ := h
  simp [World.frozen?, hb]
theorem Row.congr (h : Row w b n f) (e : ∀ i, i < n → f i = g i) : Row w b n g := by
  obtain ⟨c, t, hb, hn, hc⟩ := h
  exact ⟨c, t, hb, hn, fun i hi => by rw [hc i hi, e i hi]⟩
theorem Row.of_block (h : Row w b n f) (e : w'.heap[b]? = w.heap[b]?) : Row w' b n f := by
  obtain ⟨c, t, hb, hn, hc⟩ := h
  exact ⟨c, t, e.trans hb, hn, hc⟩
theorem Row.kept (h : Row w b n f) (hk : Kept F w w') (hf : ¬ F b) : Row w' b n f := h.of_block (hk.block b h.lt hf)
theorem Row.set (h : Row w b n f) (i : Nat) (v : Value) : Row (w.setCell ⟨b, i, none⟩ v) b n (fun j => if j = i then v else f j) := by
  obtain ⟨c, t, hb, hn, hc⟩ := h
  refine ⟨c.setIfInBounds i v, t, ?_, by simpa using hn, fun j hj => ?_⟩
  · simp [World.setCell, Array.getElem?_modify, hb]
  · rw [Array.getElem?_setIfInBounds]
    by_cases e : j = i
    · subst e
      simp [show j < c.size by omega]
    · rw [if_neg (fun h => e h.symm)]
      show c[j]? = some (if j = i then v else f j)
      rw [if_neg e]
      exact hc j hj
theorem Row.other (h : Row w b n f) {p : Addr} (hp : b ≠ p.block) (v : Value) : Row (w.setCell p v) b n f := h.of_block (heap_setCell_other w p b v hp)
theorem Row.of_blk {t : TypeId} {cs : List Value} (h : Blk w b t cs) (hn : cs.length = n) (hf : ∀ i, i < n → cs[i]? = some (f i)) : Row w b n f :=
  ⟨cs.toArray, t, h, by simp [hn], fun i hi => by simpa using hf i hi⟩
end
/-! ### A list in memory -/
/-- The cell j of links. -/
def lcell (A B : Nat → Nat) (I : Nat → Bool) (j : Nat) : Value := if j % 3 = 0 then .int .i64 (A (j / 3) : Int) else if j % 3 = 1 then .int .i64 (B (j / 3) : Int) else .bool (I (j / 3))
theorem lcell0 (A B : Nat → Nat) (I : Nat → Bool) (p : Nat) : lcell A B I (p * 3) = .int .i64 (A p : Int) := by
  unfold lcell; rw [if_pos (by omega), show p * 3 / 3 = p by omega]
theorem lcell1 (A B : Nat → Nat) (I : Nat → Bool) (p : Nat) : lcell A B I (p * 3 + 1) = .int .i64 (B p : Int) := by
  unfold lcell; rw [if_neg (by omega), if_pos (by omega), show (p * 3 + 1) / 3 = p by omega]
theorem lcell2 (A B : Nat → Nat) (I : Nat → Bool) (p : Nat) : lcell A B I (p * 3 + 2) = .bool (I p) := by
  unfold lcell; rw [if_neg (by omega), if_neg (by omega), show (p * 3 + 2) / 3 = p by omega]
/-- The list at block d, its links at block D: places 0 to n, c are in. -/
structure Lnk (w : World) (d D n : Nat) (c : Int) (A B : Nat → Nat) (I : Nat → Bool) : Prop where
  hd : Row w d 2 fun j => if j = 0 then .slice (some ⟨D, 0, none⟩) (n + 1) (n + 1) else .int .i64 c
  ln : Row w D ((n + 1) * 3) (lcell A B I)
  ne : d ≠ D
/-- The blocks of a list. -/
def Own (d D k : Nat) : Prop := k = d ∨ k = D
section
variable {w w' : World} {d D n : Nat} {c : Int} {A B : Nat → Nat} {I : Nat → Bool} {F : Nat → Prop}
theorem Lnk.c0 (h : Lnk w d D n c A B I) : w.cell? ⟨d, 0, none⟩ = some (.slice (some ⟨D, 0, none⟩) (n + 1) (n + 1)) := h.hd.cell (i := 0) (by omega)
theorem Lnk.c1 (h : Lnk w d D n c A B I) : w.cell? ⟨d, 1, none⟩ = some (.int .i64 c) := h.hd.cell (i := 1) (by omega)
theorem Lnk.f0 (h : Lnk w d D n c A B I) (j : Nat) : w.frozen? ⟨d, j, none⟩ = false := h.hd.frozen j
theorem Lnk.f1 (h : Lnk w d D n c A B I) (j : Nat) : w.frozen? ⟨D, j, none⟩ = false := h.ln.frozen j
theorem Lnk.a (h : Lnk w d D n c A B I) {p : Nat} (hp : p ≤ n) : w.cell? ⟨D, p * 3, none⟩ = some (.int .i64 (A p : Int)) := by rw [h.ln.cell (by omega), lcell0]
theorem Lnk.b (h : Lnk w d D n c A B I) {p : Nat} (hp : p ≤ n) : w.cell? ⟨D, p * 3 + 1, none⟩ = some (.int .i64 (B p : Int)) := by rw [h.ln.cell (by omega), lcell1]
theorem Lnk.i (h : Lnk w d D n c A B I) {p : Nat} (hp : p ≤ n) : w.cell? ⟨D, p * 3 + 2, none⟩ = some (.bool (I p)) := by rw [h.ln.cell (by omega), lcell2]
theorem Lnk.kept (h : Lnk w d D n c A B I) (hk : Kept F w w') (hF : ∀ k, F k → ¬ Own d D k) : Lnk w' d D n c A B I :=
  ⟨h.hd.kept hk fun x => hF _ x (.inl rfl), h.ln.kept hk fun x => hF _ x (.inr rfl), h.ne⟩
theorem Lnk.lt (h : Lnk w d D n c A B I) : d < w.heap.size ∧ D < w.heap.size := ⟨h.hd.lt, h.ln.lt⟩
theorem Lnk.count (h : Lnk w d D n c A B I) (c' : Int) : Lnk (w.setCell ⟨d, 1, none⟩ (.int .i64 c')) d D n c' A B I :=
  ⟨(h.hd.set 1 _).congr fun i hi => by
    by_cases e : i = 1
    · subst e; rfl
    · have : i = 0 := by omega
      subst this; rfl, h.ln.other h.ne.symm _, h.ne⟩
theorem Lnk.setA (h : Lnk w d D n c A B I) (p v : Nat) : Lnk (w.setCell ⟨D, p * 3, none⟩ (.int .i64 (v : Int))) d D n c (upd A p v) B I :=
  ⟨h.hd.other h.ne _, (h.ln.set (p * 3) _).congr fun i hi => by
    by_cases e : i = p * 3
    · rw [if_pos e, e, lcell0, upd_same]
    · rw [if_neg e]
      unfold lcell
      by_cases e3 : i % 3 = 0
      · rw [if_pos e3, if_pos e3, upd_other _ _ (by omega)]
      · rw [if_neg e3, if_neg e3], h.ne⟩
theorem Lnk.setB (h : Lnk w d D n c A B I) (p v : Nat) : Lnk (w.setCell ⟨D, p * 3 + 1, none⟩ (.int .i64 (v : Int))) d D n c A (upd B p v) I :=
  ⟨h.hd.other h.ne _, (h.ln.set (p * 3 + 1) _).congr fun i hi => by
    by_cases e : i = p * 3 + 1
    · rw [if_pos e, e, lcell1, upd_same]
    · rw [if_neg e]
      unfold lcell
      by_cases e3 : i % 3 = 0
      · rw [if_pos e3, if_pos e3]
      · rw [if_neg e3, if_neg e3]
        by_cases e1 : i % 3 = 1
        · rw [if_pos e1, if_pos e1, upd_other _ _ (by omega)]
        · rw [if_neg e1, if_neg e1], h.ne⟩
theorem Lnk.setI (h : Lnk w d D n c A B I) (p : Nat) (v : Bool) : Lnk (w.setCell ⟨D, p * 3 + 2, none⟩ (.bool v)) d D n c A B (upd I p v) :=
  ⟨h.hd.other h.ne _, (h.ln.set (p * 3 + 2) _).congr fun i hi => by
    by_cases e : i = p * 3 + 2
    · rw [if_pos e, e, lcell2, upd_same]
    · rw [if_neg e]
      unfold lcell
      by_cases e3 : i % 3 = 0
      · rw [if_pos e3, if_pos e3]
      · rw [if_neg e3, if_neg e3]
        by_cases e1 : i % 3 = 1
        · rw [if_pos e1, if_pos e1]
        · rw [if_neg e1, if_neg e1, upd_other _ _ (by omega)], h.ne⟩
end
theorem kept_set (w : World) (b i : Nat) (v : Value) : Kept (fun x => x = b) w (w.setCell ⟨b, i, none⟩ v) := (Kept.refl (fun x => x = b) w).setCell (p := ⟨b, i, none⟩) (fun _ => rfl) v
/-- A list of the numbers 0 to n - 1; who is in: zs. -/
structure ListAt (w : World) (d D n : Nat) (zs : List Nat) : Prop where
  lnk : ∃ A B I, Lnk w d D n (zs.length : Int) A B I ∧ Ring n A B I zs
  size : n ≤ 1024
section
variable {w w' : World} {d D n : Nat} {zs : List Nat} {F : Nat → Prop}
theorem ListAt.kept (h : ListAt w d D n zs) (hk : Kept F w w') (hF : ∀ k, F k → ¬ Own d D k) : ListAt w' d D n zs := by
  obtain ⟨A, B, I, h1, h2⟩ := h.lnk
  exact ⟨⟨A, B, I, h1.kept hk hF, h2⟩, h.size⟩
theorem ListAt.grow (h : ListAt w d D n zs) (hk : Grow w w') : ListAt w' d D n zs := h.kept hk fun _ x => x.elim
theorem ListAt.lt (h : ListAt w d D n zs) : d < w.heap.size ∧ D < w.heap.size := by
  obtain ⟨A, B, I, h1, _⟩ := h.lnk
  exact h1.lt
end
end Go.Proofs.YtbnkpnllgoghnaaGreat.Rowed

namespace Go.Proofs.YtbnkpnllgoghnaaGreat.ListC
open Go.ChangeShapes Go.WideShapes Go.ChangeAt Go.RowKit
open Go.Proofs.YtbnkpnllgoghnaaGreat.Mem Go.Proofs.YtbnkpnllgoghnaaGreat.Blk Go.Proofs.YtbnkpnllgoghnaaGreat.ListM Go.Proofs.YtbnkpnllgoghnaaGreat.Rowed Go.Proofs.YtbnkpnllgoghnaaGreat.Stages
section
variable {w : World} {d D n : Nat} {c : Int} {A B : Nat → Nat} {I : Nat → Bool} {zs : List Nat}
theorem knows_bad (h : Lnk w d D n c A B I) (hn : n ≤ 1024) (k : Int) (hk : ¬ (0 ≤ k ∧ k < (n : Int))) :
    Calls Tryz.prog 195 #[.pointer (some ⟨d, 0, none⟩), .int .i64 k] w fun e w' => e = .returned (.bool false) ∧ w = w' := by
  have c0 := h.c0
  clear h
  by_cases h0 : 0 ≤ k
  · have h1 : (n : Int) ≤ k := by omega
    clear hk
    go_enter Tryz.func195, Tryz.ntmps195
    go_wp2
    go_ret
    exact ⟨by rw [show decide (k < (n : Int)) = false from decide_eq_false (by omega)]; rfl, rfl⟩
  · have h1 : k < 0 := by omega
    clear hk
    go_enter Tryz.func195, Tryz.ntmps195
    go_wp2
    go_ret
    exact ⟨rfl, rfl⟩
theorem knows_good (h : Lnk w d D n c A B I) (hn : n ≤ 1024) (k : Nat) (hk : k < n) :
    Calls Tryz.prog 195 #[.pointer (some ⟨d, 0, none⟩), .int .i64 (k : Int)] w fun e w' => e = .returned (.bool true) ∧ w = w' := by
  have c0 := h.c0
  clear h
  have hk' : (k : Int) < (n : Int) := by omega
  go_enter Tryz.func195, Tryz.ntmps195
  go_wp2
  go_ret
  exact ⟨rfl, rfl⟩
theorem takes_good (h : Lnk w d D n c A B I) (hn : n ≤ 1024) (k : Nat) (hk : k < n) :
    Calls Tryz.prog 182 #[.pointer (some ⟨d, 0, none⟩), .int .i64 (k : Int)] w fun e w' => e = .returned (.bool (!I (k + 1))) ∧ w = w' := by
  have c0 := h.c0
  have ci := h.i (p := k + 1) (by omega)
  have HC := Lib.hid (knows_good h hn k hk)
  clear h
  have hk' : (k : Int) < (n : Int) := by omega
  go_enter Tryz.func182, Tryz.ntmps182
  go_wp2_with (go_at_call 195; (with_reducible refine HC.out.mono ?_); rintro e w' ⟨rfl, rfl⟩)
  go_ret
  exact ⟨rfl, rfl⟩
theorem put_any (h : Lnk w d D n c A B I) (hn : n ≤ 1024) (hc : 0 ≤ c ∧ c ≤ 1024) (p a b : Nat) (hp : p ≤ n) (ha : a ≤ n) (hb : b ≤ n) :
    Calls Tryz.prog 183 #[.pointer (some ⟨d, 0, none⟩), .int .i64 (p : Int), .int .i64 (a : Int), .int .i64 (b : Int)] w fun e w' => e = .returned (.tuple #[]) ∧ Lnk w' d D n (c + 1) (upd (upd A p a) b p) (upd (upd B p b) a p) (upd I p true) ∧ Kept (Own d D) w w' ∧ w'.heap.size = w.heap.size := by
  have c0 := h.c0
  have c1 := h.c1
  have a0 := h.a hp
  have a1 := h.b hp
  have a2 := h.i hp
  have f0 := h.f0 1
  have f1 := h.f1
  have hp' : (p : Int) ≤ (n : Int) := by omega
  have ha' : (a : Int) ≤ (n : Int) := by omega
  have hb' : (b : Int) ≤ (n : Int) := by omega
  have H := Lib.hid h
  clear h
  go_enter Tryz.func183, Tryz.ntmps183
  go_upto_region 1 with (fail)
  have H1 := Lib.hid (((H.out.setA p a).setB p b).setI p true)
  have HK1 : Hid (Kept (Own d D) w (((w.setCell ⟨D, p * 3, none⟩ (.int .i64 (a : Int))).setCell ⟨D, p * 3 + 1, none⟩ (.int .i64 (b : Int))).setCell ⟨D, p * 3 + 2, none⟩ (.bool true))) := (((Kept.refl _ w).setCell (fun _ => .inr rfl) _).setCell (fun _ => .inr rfl) _).setCell (fun _ => .inr rfl) _
  have HZ1 : Hid ((((w.setCell ⟨D, p * 3, none⟩ (.int .i64 (a : Int))).setCell ⟨D, p * 3 + 1, none⟩ (.int .i64 (b : Int))).setCell ⟨D, p * 3 + 2, none⟩ (.bool true)).heap.size = w.heap.size) := by show _ = _; simp
  generalize ((w.setCell ⟨D, p * 3, none⟩ (.int .i64 (a : Int))).setCell ⟨D, p * 3 + 1, none⟩ (.int .i64 (b : Int))).setCell ⟨D, p * 3 + 2, none⟩ (.bool true) = w1 at H1 HK1 HZ1 ⊢
  clear c0 c1 a0 a1 a2 f0 f1 H
  have c0 := H1.out.c0
  have a0 := H1.out.b ha
  have f1 := H1.out.f1 (a * 3 + 1)
  go_upto_region 2 with (fail)
  have H2 := Lib.hid (H1.out.setB a p)
  have HK2 : Hid (Kept (Own d D) w (w1.setCell ⟨D, a * 3 + 1, none⟩ (.int .i64 (p : Int)))) := HK1.out.setCell (fun _ => .inr rfl) _
  have HZ2 : Hid ((w1.setCell ⟨D, a * 3 + 1, none⟩ (.int .i64 (p : Int))).heap.size = w.heap.size) := by show _ = _; simpa using HZ1.out
  generalize w1.setCell ⟨D, a * 3 + 1, none⟩ (.int .i64 (p : Int)) = w2 at H2 HK2 HZ2 ⊢
  clear c0 a0 f1 H1 HK1 HZ1 w1
  have c0 := H2.out.c0
  have a0 := H2.out.a hb
  have f1 := H2.out.f1 (b * 3)
  go_upto_region 3 with (fail)
  have H3 := Lib.hid (H2.out.setA b p)
  have HK3 : Hid (Kept (Own d D) w (w2.setCell ⟨D, b * 3, none⟩ (.int .i64 (p : Int)))) := HK2.out.setCell (fun _ => .inr rfl) _
  have HZ3 : Hid ((w2.setCell ⟨D, b * 3, none⟩ (.int .i64 (p : Int))).heap.size = w.heap.size) := by show _ = _; simpa using HZ2.out
  generalize w2.setCell ⟨D, b * 3, none⟩ (.int .i64 (p : Int)) = w3 at H3 HK3 HZ3 ⊢
  clear c0 a0 f1 H2 HK2 HZ2 w2
  have c1 := H3.out.c1
  have f0 := H3.out.f0 1
  go_wp2
  go_end0
  exact ⟨rfl, H3.out.count _, HK3.out.setCell (fun _ => .inl rfl) _, by simpa using HZ3.out⟩
/-- A code, and the list behind the call. -/
def ListPost (d D n : Nat) (w : World) (v : Value) (zs : List Nat) (e : Ending) (w' : World) : Prop :=
  e = .returned v ∧ ListAt w' d D n zs ∧ Kept (Own d D) w w' ∧ w'.heap.size = w.heap.size
theorem put_front (h : ListAt w d D n zs) (k : Nat) (hk : k < n) (hz : k ∉ zs) (B : Nat → Nat) (A : Nat → Nat) (I : Nat → Bool) (hl : Lnk w d D n (zs.length : Int) A B I) (hr : Ring n A B I zs) :
    Calls Tryz.prog 183 #[.pointer (some ⟨d, 0, none⟩), .int .i64 ((k : Int) + 1), .int .i64 0, .int .i64 (B 0 : Int)] w (ListPost d D n w (.tuple #[]) (k :: zs)) := by
  have hlen := hr.len
  have HP := put_any hl h.size ⟨by omega, by have := h.size; omega⟩ (k + 1) 0 (B 0) (by omega) (Nat.zero_le _) (hr.nextLe 0 (Nat.zero_le _))
  simp only [Int.natCast_add, Int.cast_ofNat_Int] at HP
  refine HP.mono ?_
  rintro e w' ⟨rfl, hl', hk', hs⟩
  exact ⟨rfl, ⟨⟨_, _, _, by simpa using hl', hr.front hk hz⟩, h.size⟩, hk', hs⟩
theorem put_back (h : ListAt w d D n zs) (k : Nat) (hk : k < n) (hz : k ∉ zs) (B : Nat → Nat) (A : Nat → Nat) (I : Nat → Bool) (hl : Lnk w d D n (zs.length : Int) A B I) (hr : Ring n A B I zs) :
    Calls Tryz.prog 183 #[.pointer (some ⟨d, 0, none⟩), .int .i64 ((k : Int) + 1), .int .i64 (A 0 : Int), .int .i64 0] w (ListPost d D n w (.tuple #[]) (zs ++ [k])) := by
  have hlen := hr.len
  have HP := put_any hl h.size ⟨by omega, by have := h.size; omega⟩ (k + 1) (A 0) 0 (by omega) (hr.prevLe 0 (Nat.zero_le _)) (Nat.zero_le _)
  simp only [Int.natCast_add, Int.cast_ofNat_Int] at HP
  refine HP.mono ?_
  rintro e w' ⟨rfl, hl', hk', hs⟩
  exact ⟨rfl, ⟨⟨_, _, _, by simpa using hl', hr.back hk hz⟩, h.size⟩, hk', hs⟩
theorem front_good (h : ListAt w d D n zs) (k : Nat) (hk : k < n) (hz : k ∉ zs) :
    Calls Tryz.prog 154 #[.pointer (some ⟨d, 0, none⟩), .int .i64 (k : Int)] w (ListPost d D n w (.bool true) (k :: zs)) := by
  obtain ⟨A, B, I, hl, hr⟩ := h.lnk
  have hsz := h.size
  have c0 := hl.c0
  have b0 := hl.b (p := 0) (Nat.zero_le _)
  have hI : I (k + 1) = false := by rw [hr.inn k hk]; simpa using hz
  have HT := Lib.hid (takes_good hl hsz k hk)
  rw [hI] at HT
  have HP := Lib.hid (put_front h k hk hz B A I hl hr)
  have hk' : (k : Int) < (n : Int) := by omega
  clear h hl hr hI
  go_enter Tryz.func154, Tryz.ntmps154
  go_wp2_with (first
    | (go_at_call 182; (with_reducible refine HT.out.mono ?_); rintro e w' ⟨rfl, rfl⟩)
    | (go_at_call 183; (with_reducible refine HP.out.mono ?_); rintro e w' ⟨rfl, hl, hk, hs⟩; have HL := Lib.hid hl; have HK := Lib.hid hk; have HS := Lib.hid hs; clear hl hk hs))
  go_ret
  exact ⟨rfl, HL.out, HK.out, HS.out⟩
theorem back_good (h : ListAt w d D n zs) (k : Nat) (hk : k < n) (hz : k ∉ zs) :
    Calls Tryz.prog 176 #[.pointer (some ⟨d, 0, none⟩), .int .i64 (k : Int)] w (ListPost d D n w (.bool true) (zs ++ [k])) := by
  obtain ⟨A, B, I, hl, hr⟩ := h.lnk
  have hsz := h.size
  have c0 := hl.c0
  have b0 := hl.a (p := 0) (Nat.zero_le _)
  have hI : I (k + 1) = false := by rw [hr.inn k hk]; simpa using hz
  have HT := Lib.hid (takes_good hl hsz k hk)
  rw [hI] at HT
  have HP := Lib.hid (put_back h k hk hz B A I hl hr)
  have hk' : (k : Int) < (n : Int) := by omega
  clear h hl hr hI
  go_enter Tryz.func176, Tryz.ntmps176
  go_wp2_with (first
    | (go_at_call 182; (with_reducible refine HT.out.mono ?_); rintro e w' ⟨rfl, rfl⟩)
    | (go_at_call 183; (with_reducible refine HP.out.mono ?_); rintro e w' ⟨rfl, hl, hk, hs⟩; have HL := Lib.hid hl; have HK := Lib.hid hk; have HS := Lib.hid hs; clear hl hk hs))
  go_ret
  exact ⟨rfl, HL.out, HK.out, HS.out⟩
theorem takes_bad (h : ListAt w d D n zs) (k : Int) (hk : okF n zs k = false) :
    Calls Tryz.prog 182 #[.pointer (some ⟨d, 0, none⟩), .int .i64 k] w fun e w' => e = .returned (.bool false) ∧ w = w' := by
  obtain ⟨A, B, I, hl, hr⟩ := h.lnk
  by_cases hkn : 0 ≤ k ∧ k < (n : Int)
  · obtain ⟨K, rfl⟩ := Int.eq_ofNat_of_zero_le hkn.1
    have hKn : K < n := by omega
    have hI : I (K + 1) = true := by
      rw [hr.inn K hKn]
      simpa [okF, hKn] using hk
    have := takes_good hl h.size K hKn
    rwa [hI] at this
  · have HC := Lib.hid (knows_bad hl h.size k hkn)
    clear h hl hr hk hkn
    go_enter Tryz.func182, Tryz.ntmps182
    go_wp2_with (go_at_call 195; (with_reducible refine HC.out.mono ?_); rintro e w' ⟨rfl, rfl⟩)
    go_ret
    exact ⟨rfl, rfl⟩
theorem listPost_refl (h : ListAt w d D n zs) (v : Value) : ListPost d D n w v zs (.returned v) w := ⟨rfl, h, Kept.refl _ _, rfl⟩
theorem front_any (h : ListAt w d D n zs) (k : Int) :
    Calls Tryz.prog 154 #[.pointer (some ⟨d, 0, none⟩), .int .i64 k] w (ListPost d D n w (.bool (okF n zs k)) (frontL n zs k)) := by
  cases hk : okF n zs k with
  | true =>
    have hk' := hk
    simp only [okF, Bool.and_eq_true, decide_eq_true_eq, Bool.not_eq_true', decide_eq_false_iff_not] at hk'
    obtain ⟨K, rfl⟩ := Int.eq_ofNat_of_zero_le hk'.1.1
    have := front_good h K (by omega) hk'.2
    unfold frontL
    rw [hk]
    exact this
  | false =>
    have HT := Lib.hid (takes_bad h k hk)
    have HQ := Lib.hid (listPost_refl h (.bool false))
    have HE : Hid (frontL n zs k = zs) := by show _ = _; unfold frontL; rw [hk]; rfl
    clear h hk
    go_enter Tryz.func154, Tryz.ntmps154
    go_wp2_with (go_at_call 182; (with_reducible refine HT.out.mono ?_); rintro e w' ⟨rfl, rfl⟩)
    go_ret
    rw [HE.out]
    exact HQ.out
theorem back_any (h : ListAt w d D n zs) (k : Int) :
    Calls Tryz.prog 176 #[.pointer (some ⟨d, 0, none⟩), .int .i64 k] w (ListPost d D n w (.bool (okF n zs k)) (backL n zs k)) := by
  cases hk : okF n zs k with
  | true =>
    have hk' := hk
    simp only [okF, Bool.and_eq_true, decide_eq_true_eq, Bool.not_eq_true', decide_eq_false_iff_not] at hk'
    obtain ⟨K, rfl⟩ := Int.eq_ofNat_of_zero_le hk'.1.1
    have := back_good h K (by omega) hk'.2
    unfold backL
    rw [hk]
    exact this
  | false =>
    have HT := Lib.hid (takes_bad h k hk)
    have HQ := Lib.hid (listPost_refl h (.bool false))
    have HE : Hid (backL n zs k = zs) := by show _ = _; unfold backL; rw [hk]; rfl
    clear h hk
    go_enter Tryz.func176, Tryz.ntmps176
    go_wp2_with (go_at_call 182; (with_reducible refine HT.out.mono ?_); rintro e w' ⟨rfl, rfl⟩)
    go_ret
    rw [HE.out]
    exact HQ.out
/-! ### What is only asked -/
theorem len_any (h : ListAt w d D n zs) : Calls Tryz.prog 139 #[.pointer (some ⟨d, 0, none⟩)] w fun e w' => e = .returned (.int .i64 (zs.length : Int)) ∧ w = w' := by
  obtain ⟨A, B, I, hl, hr⟩ := h.lnk
  have c1 := hl.c1
  clear h hl hr
  go_enter Tryz.func139, Tryz.ntmps139
  go_wp2
  go_ret
  exact ⟨rfl, rfl⟩
theorem len_nil : Calls Tryz.prog 139 #[.pointer none] w fun e w' => e = .returned (.int .i64 0) ∧ w = w' := by
  go_enter Tryz.func139, Tryz.ntmps139
  go_wp2
  go_ret
  exact ⟨rfl, rfl⟩
theorem first_nil : Calls Tryz.prog 178 #[.pointer none] w fun e w' => e = .returned (.int .i64 (-1)) ∧ w = w' := by
  go_enter Tryz.func178, Tryz.ntmps178
  go_wp2_with (go_at_call 139; (with_reducible refine len_nil.mono ?_); rintro e w' ⟨rfl, rfl⟩)
  go_ret
  exact ⟨rfl, rfl⟩
theorem first_any (h : ListAt w d D n zs) : Calls Tryz.prog 178 #[.pointer (some ⟨d, 0, none⟩)] w fun e w' => e = .returned (.int .i64 (first zs)) ∧ w = w' := by
  obtain ⟨A, B, I, hl, hr⟩ := h.lnk
  have c0 := hl.c0
  have b0 := hl.b (p := 0) (Nat.zero_le _)
  have HL := Lib.hid (len_any h)
  have HE := Lib.hid hr.first
  have hsz := h.size
  have hle := hr.nextLe 0 (Nat.zero_le _)
  clear h hl hr
  by_cases hz : zs = []
  · subst hz
    simp only [List.length_nil, Int.cast_ofNat_Int] at HL
    go_enter Tryz.func178, Tryz.ntmps178
    go_wp2_with (go_at_call 139; (with_reducible refine HL.out.mono ?_); rintro e w' ⟨rfl, rfl⟩)
    go_ret
    exact ⟨rfl, rfl⟩
  · have hz' : ((zs.length : Int) == 0) = false := by
      rw [beq_eq_false_iff_ne]
      have := List.length_pos_iff.2 hz
      omega
    have HE' : Hid ((B 0 : Int) - 1 = first zs) := HE
    go_enter Tryz.func178, Tryz.ntmps178
    go_wp2_with (go_at_call 139; (with_reducible refine HL.out.mono ?_); rintro e w' ⟨rfl, rfl⟩)
    go_ret
    exact ⟨by rw [← HE'.out]; rfl, rfl⟩
end
end Go.Proofs.YtbnkpnllgoghnaaGreat.ListC

namespace Go.Proofs.YtbnkpnllgoghnaaGreat.ListD
open Go.ChangeShapes Go.WideShapes Go.ChangeAt Go.RowKit
open Go.Proofs.YtbnkpnllgoghnaaGreat.Mem Go.Proofs.YtbnkpnllgoghnaaGreat.Blk Go.Proofs.YtbnkpnllgoghnaaGreat.ListM Go.Proofs.YtbnkpnllgoghnaaGreat.Rowed Go.Proofs.YtbnkpnllgoghnaaGreat.ListC Go.Proofs.YtbnkpnllgoghnaaGreat.Stages
section
variable {w : World} {d D n : Nat} {c : Int} {A B : Nat → Nat} {I : Nat → Bool} {zs : List Nat}
theorem okO_bad {k : Int} (hr : Ring n A B I zs) (hk : ¬ (0 ≤ k ∧ k < (n : Int))) : okO zs k = false := by
  unfold okO
  by_cases h0 : 0 ≤ k
  · have : k.toNat ∉ zs := fun hm => hk ⟨h0, by have := hr.lt _ hm; omega⟩
    simp [this]
  · simp [h0]
theorem has_any (h : ListAt w d D n zs) (k : Int) : Calls Tryz.prog 181 #[.pointer (some ⟨d, 0, none⟩), .int .i64 k] w fun e w' => e = .returned (.bool (okO zs k)) ∧ w = w' := by
  obtain ⟨A, B, I, hl, hr⟩ := h.lnk
  have hsz := h.size
  by_cases hkn : 0 ≤ k ∧ k < (n : Int)
  · obtain ⟨K, rfl⟩ := Int.eq_ofNat_of_zero_le hkn.1
    have hKn : K < n := by omega
    have hk' : (K : Int) < (n : Int) := by omega
    have c0 := hl.c0
    have b0 := hl.i (p := K + 1) (by omega)
    have HC := Lib.hid (knows_good hl hsz K hKn)
    have HE : Hid (okO zs (K : Int) = I (K + 1)) := by
      show _ = _
      unfold okO
      rw [hr.inn K hKn, Int.toNat_natCast, decide_eq_true hkn.1]; rfl
    clear h hl hr hkn
    go_enter Tryz.func181, Tryz.ntmps181
    go_wp2_with (go_at_call 195; (with_reducible refine HC.out.mono ?_); rintro e w' ⟨rfl, rfl⟩)
    go_ret
    exact ⟨by rw [HE.out]; rfl, rfl⟩
  · have HC := Lib.hid (knows_bad hl hsz k hkn)
    have HE := Lib.hid (okO_bad hr hkn)
    clear h hl hr hkn
    go_enter Tryz.func181, Tryz.ntmps181
    go_wp2_with (go_at_call 195; (with_reducible refine HC.out.mono ?_); rintro e w' ⟨rfl, rfl⟩)
    go_ret
    exact ⟨by rw [HE.out]; rfl, rfl⟩
/-- What New makes. -/
def NewPost (n : Nat) (w : World) (e : Ending) (w' : World) : Prop :=
  ∃ d D, e = .returned (.pointer (some ⟨d, 0, none⟩)) ∧ ListAt w' d D n [] ∧ w.heap.size ≤ d ∧ w.heap.size ≤ D ∧ Grow w w'
theorem new_bad (k : Int) (hk : ¬ (0 ≤ k ∧ k ≤ 1024)) : Calls Tryz.prog 38 #[.int .i64 k] w fun e w' => e = .returned (.pointer none) ∧ w = w' := by
  by_cases h0 : k < 0
  · clear hk
    go_enter Tryz.func38, Tryz.ntmps38
    go_wp2
    go_ret
    exact ⟨rfl, rfl⟩
  · have h1 : 1024 < k := by omega
    clear hk
    go_enter Tryz.func38, Tryz.ntmps38
    go_wp2
    go_ret
    exact ⟨rfl, rfl⟩
theorem made3 (w : World) (n : Nat) (hn : n ≤ 1024) : (Instr.makeSlice 129 (.int .i64 ((n : Int) + 1)) (.int .i64 ((n : Int) + 1))).run Tryz.prog w = .ok (.slice (some ⟨w.heap.size, 0, none⟩) (n + 1) (n + 1)) (w.alloc (.cells (madeCells #[.int .i64 0, .int .i64 0, .bool false] ((n + 1) * 3)) 153)) := by
  obtain ⟨i, hi, hz, hs, hb⟩ := info_parts (show (Tryz.prog.info? 153).map (fun i => (i.zero, i.size, i.bytes)) = some (some (.agg #[.int .i64 0, .int .i64 0, .bool false]), 3, 24) from by kernel_rfl)
  have := run_make (P := Tryz.prog) w 129 153 i _ Tryz.underlying129 hi hz .i64 .i64 ((n : Int) + 1) ((n : Int) + 1) (by omega) (Int.le_refl _) (by rw [hb]; omega) (by omega)
  rw [hs, show ((n : Int) + 1).toNat = n + 1 by omega] at this
  exact this
theorem new_good (n : Nat) (hn : n ≤ 1024) : Calls Tryz.prog 38 #[.int .i64 (n : Int)] w (NewPost n w) := by
  have hn' : (n : Int) ≤ 1024 := by omega
  have km := fun (w : World) => made3 w n hn
  go_enter Tryz.func38, Tryz.ntmps38
  go_wp2
  go_ret
  clear km
  have hb := Blk.new (w.alloc (.cells (madeCells #[.int .i64 0, .int .i64 0, .bool false] ((n + 1) * 3)) 153)) 131 [.slice (some ⟨w.heap.size, 0, none⟩) (n + 1) (n + 1), .int .i64 0]
  have e1 : (w.alloc (.cells (madeCells #[.int .i64 0, .int .i64 0, .bool false] ((n + 1) * 3)) 153)).heap.size = w.heap.size + 1 := by simp
  rw [e1] at hb
  have hr : Row (w.alloc (.cells (madeCells #[.int .i64 0, .int .i64 0, .bool false] ((n + 1) * 3)) 153)) w.heap.size ((n + 1) * 3) (lcell (fun _ => 0) (fun _ => 0) (fun _ => false)) :=
    ⟨_, _, heap_alloc_new w _, by simp [size_madeCells], fun i hi => by
      simp only [madeCells, Array.getElem?_map, Array.getElem?_range, hi, if_pos, Option.map_some]
      congr 1
      unfold lcell
      have : i % 3 = 0 ∨ i % 3 = 1 ∨ i % 3 = 2 := by omega
      rcases this with e | e | e <;> simp [e]⟩
  refine ⟨_, _, rfl, ⟨⟨_, _, _, ⟨Row.of_blk hb rfl (fun i hi => ?_), hr.kept (F := fun _ => False) ((Kept.refl _ _).alloc _) id, by omega⟩, Ring.zero n⟩, hn⟩, by omega, by omega, ((Kept.refl _ _).alloc _).alloc _⟩
  have : i = 0 ∨ i = 1 := by omega
  rcases this with rfl | rfl <;> rfl
theorem out_good (h : ListAt w d D n zs) (k : Nat) (hz : k ∈ zs) :
    Calls Tryz.prog 153 #[.pointer (some ⟨d, 0, none⟩), .int .i64 (k : Int)] w fun e w' => e = .returned (.bool true) ∧ ListAt w' d D n (zs.erase k) ∧ Kept (Own d D) w w' := by
  obtain ⟨A, B, I, hl, hr⟩ := h.lnk
  have hsz := h.size
  have hk := hr.lt k hz
  have hk' : (k : Int) < (n : Int) := by omega
  have hlen := hr.len
  have hpos : 0 < zs.length := List.length_pos_of_mem hz
  have c0 := hl.c0
  have a0 := hl.a (p := k + 1) (by omega)
  have b0 := hl.b (p := k + 1) (by omega)
  have i0 := hl.i (p := k + 1) (by omega)
  have HC := Lib.hid (has_any h k)
  have HE : Hid (okO zs (k : Int) = true) := by
    show _ = _
    unfold okO
    simp [hz]
  rw [HE.out] at HC
  have HA := Lib.hid (hr.prevLe (k + 1) (by omega))
  have HB := Lib.hid (hr.nextLe (k + 1) (by omega))
  have HR := Lib.hid (hr.del hz)
  have HLN : Hid ((zs.erase k).length = zs.length - 1) := by show _ = _; rw [List.length_erase, if_pos hz]
  have H := Lib.hid hl
  clear h hl hr
  generalize A (k + 1) = a at *
  generalize B (k + 1) = b at *
  go_enter Tryz.func153, Tryz.ntmps153
  go_upto_region 4 with (go_at_call 181; (with_reducible refine HC.out.mono ?_); rintro e w' ⟨rfl, rfl⟩)
  have HGA : Hid (Grow w (w.alloc (.cells #[.int .i64 (a : Int), .int .i64 (b : Int), .bool (I (k + 1))] 153))) := (Kept.refl _ w).alloc _
  have HBA := Lib.hid (Blk.new w 153 [.int .i64 (a : Int), .int .i64 (b : Int), .bool (I (k + 1))])
  have HNG : Hid (¬ Own d D w.heap.size) := fun x => by
    have := H.out.lt
    rcases x with x | x <;> omega
  have H1 := Lib.hid (H.out.kept HGA.out (fun _ x => x.elim))
  have HK1 : Hid (Kept (Own d D) w (w.alloc (.cells #[.int .i64 (a : Int), .int .i64 (b : Int), .bool (I (k + 1))] 153))) := HGA.out.kept
  clear c0 a0 b0 i0 H HGA
  generalize hwa : w.alloc (.cells #[.int .i64 (a : Int), .int .i64 (b : Int), .bool (I (k + 1))] 153) = wa at H1 HBA HK1 ⊢
  clear hwa
  generalize w.heap.size = g at HBA HNG ⊢
  have haz : (a : Int) ≤ (n : Int) := by have := HA.out; omega
  have hbz : (b : Int) ≤ (n : Int) := by have := HB.out; omega
  have q0 := up_cell (F := (· = D)) (w := wa.drew) H1.out.c0 H1.out.ne
  have q1 := up_cell (F := (· = D)) (w := wa.drew) (HBA.out.cell 0) (fun x => HNG.out (.inr x))
  have q2 := up_cell (F := (· = D)) (w := wa.drew) (HBA.out.cell 1) (fun x => HNG.out (.inr x))
  have r0 := H1.out.b HA.out
  have r1 := H1.out.f1 (a * 3 + 1)
  refine wp_region_stages (Kept (· = D)) (kept_refl _) (kept_trans _) [([0, 1, 2, 3, 4, 5, 6, 7, 8, 9], 10)] [] (by kernel_rfl) (by kernel_rfl) ?_
  simp only [selSt, sel, List.map_cons, List.map_nil, List.getD_cons_succ, List.getD_cons_zero]
  refine st_cons fun K1 hK1 => ?_
  repeat (go_big_quiet_step (fail))
  refine wpQuiet_nil ?_
  clear q0 q1 q2
  go_wp2
  refine norm_up (hK1 _ _ (kept_set _ _ _ _) (st_nil fun K2 hK2 => wpQuiet_nil (hK2 _ ?_)))
  clear hK1 hK2 K1 K2 r0 r1
  have H2 : Hid (Lnk (wa.setCell ⟨D, a * 3 + 1, none⟩ (.int .i64 (b : Int))).drew d D n (zs.length : Int) A (upd B a b) I) := (H1.out.setB a b).kept (Kept.drew' _) (F := fun _ => False) (fun _ x => x.elim)
  have HK2 : Hid (Kept (Own d D) w (wa.setCell ⟨D, a * 3 + 1, none⟩ (.int .i64 (b : Int))).drew) := (HK1.out.setCell (fun _ => .inr rfl) _).drew
  have HB2 : Hid (Blk (wa.setCell ⟨D, a * 3 + 1, none⟩ (.int .i64 (b : Int))).drew g 153 [.int .i64 (a : Int), .int .i64 (b : Int), .bool (I (k + 1))]) := (HBA.out.other (p := ⟨D, a * 3 + 1, none⟩) (fun x => HNG.out (.inr x)) _).drew
  generalize (wa.setCell ⟨D, a * 3 + 1, none⟩ (.int .i64 (b : Int))).drew = w2 at H2 HK2 HB2 ⊢
  clear H1 HK1 HBA wa
  go_upto_region 5 with (fail)
  have q0 := up_cell (F := (· = D)) (w := w2.drew) H2.out.c0 H2.out.ne
  have q1 := up_cell (F := (· = D)) (w := w2.drew) (HB2.out.cell 0) (fun x => HNG.out (.inr x))
  have q2 := up_cell (F := (· = D)) (w := w2.drew) (HB2.out.cell 1) (fun x => HNG.out (.inr x))
  have r0 := H2.out.a HB.out
  have r1 := H2.out.f1 (b * 3)
  refine wp_region_stages (Kept (· = D)) (kept_refl _) (kept_trans _) [([0, 1, 2, 3, 4, 5, 6, 7, 8, 9], 10)] [] (by kernel_rfl) (by kernel_rfl) ?_
  simp only [selSt, sel, List.map_cons, List.map_nil, List.getD_cons_succ, List.getD_cons_zero]
  refine st_cons fun K1 hK1 => ?_
  repeat (go_big_quiet_step (fail))
  refine wpQuiet_nil ?_
  clear q0 q1 q2
  go_wp2
  refine norm_up (hK1 _ _ (kept_set _ _ _ _) (st_nil fun K2 hK2 => wpQuiet_nil (hK2 _ ?_)))
  clear hK1 hK2 K1 K2 r0 r1
  have H3 : Hid (Lnk (w2.setCell ⟨D, b * 3, none⟩ (.int .i64 (a : Int))).drew d D n (zs.length : Int) (upd A b a) (upd B a b) I) := (H2.out.setA b a).kept (Kept.drew' _) (F := fun _ => False) (fun _ x => x.elim)
  have HK3 : Hid (Kept (Own d D) w (w2.setCell ⟨D, b * 3, none⟩ (.int .i64 (a : Int))).drew) := (HK2.out.setCell (fun _ => .inr rfl) _).drew
  generalize (w2.setCell ⟨D, b * 3, none⟩ (.int .i64 (a : Int))).drew = w3 at H3 HK3 ⊢
  clear H2 HK2 HB2 w2 haz hbz
  have c0 := H3.out.c0
  have a0 := H3.out.a (p := k + 1) (by omega)
  have b0 := H3.out.b (p := k + 1) (by omega)
  have i0 := H3.out.i (p := k + 1) (by omega)
  have f1 := H3.out.f1
  go_upto_region 7 with (fail)
  have H4 : Hid (Lnk (((w3.setCell ⟨D, (k + 1) * 3, none⟩ (.int .i64 0)).setCell ⟨D, (k + 1) * 3 + 1, none⟩ (.int .i64 0)).setCell ⟨D, (k + 1) * 3 + 2, none⟩ (.bool false)) d D n (zs.length : Int) (upd (upd A b a) (k + 1) 0) (upd (upd B a b) (k + 1) 0) (upd I (k + 1) false)) := ((H3.out.setA (k + 1) 0).setB (k + 1) 0).setI (k + 1) false
  have HK4 : Hid (Kept (Own d D) w (((w3.setCell ⟨D, (k + 1) * 3, none⟩ (.int .i64 0)).setCell ⟨D, (k + 1) * 3 + 1, none⟩ (.int .i64 0)).setCell ⟨D, (k + 1) * 3 + 2, none⟩ (.bool false))) := ((HK3.out.setCell (fun _ => .inr rfl) _).setCell (fun _ => .inr rfl) _).setCell (fun _ => .inr rfl) _
  generalize (((w3.setCell ⟨D, (k + 1) * 3, none⟩ (.int .i64 0)).setCell ⟨D, (k + 1) * 3 + 1, none⟩ (.int .i64 0)).setCell ⟨D, (k + 1) * 3 + 2, none⟩ (.bool false)) = w4 at H4 HK4 ⊢
  clear c0 a0 b0 i0 f1 H3 HK3 w3
  have c1 := H4.out.c1
  have f0 := H4.out.f0 1
  have hl63 : (zs.length : Int) ≤ 1024 := by omega
  have hl0 : (1 : Int) ≤ (zs.length : Int) := by omega
  go_wp2
  go_ret
  refine ⟨rfl, ⟨⟨_, _, _, ?_, HR.out⟩, hsz⟩, HK4.out.setCell (fun _ => .inl rfl) _⟩
  have := H4.out.count ((zs.length : Int) - 1)
  rw [HLN.out, show ((zs.length - 1 : Nat) : Int) = (zs.length : Int) - 1 by omega]
  exact this
theorem out_any (h : ListAt w d D n zs) (k : Int) :
    Calls Tryz.prog 153 #[.pointer (some ⟨d, 0, none⟩), .int .i64 k] w fun e w' => e = .returned (.bool (okO zs k)) ∧ ListAt w' d D n (outL zs k) ∧ Kept (Own d D) w w' := by
  cases hk : okO zs k with
  | true =>
    have hk' := hk
    simp only [okO, Bool.and_eq_true, decide_eq_true_eq] at hk'
    obtain ⟨K, rfl⟩ := Int.eq_ofNat_of_zero_le hk'.1
    have := out_good h K hk'.2
    unfold outL
    rw [hk]
    exact this
  | false =>
    have HT := Lib.hid (has_any h k)
    rw [hk] at HT
    have HQ := Lib.hid h
    have HE : Hid (outL zs k = zs) := by show _ = _; unfold outL; rw [hk]; rfl
    clear h hk
    go_enter Tryz.func153, Tryz.ntmps153
    go_wp2_with (go_at_call 181; (with_reducible refine HT.out.mono ?_); rintro e w' ⟨rfl, rfl⟩)
    go_ret
    rw [HE.out]
    exact ⟨rfl, HQ.out, Kept.refl _ _⟩
theorem infoI : (Tryz.prog.info? 3).map (fun i => (i.zero, i.size, i.bytes)) = some (some (.int .i64 0), 1, 8) := by kernel_rfl
theorem all_any (h : ListAt w d D n zs) :
    Calls Tryz.prog 86 #[.pointer (some ⟨d, 0, none⟩)] w fun e w' => ∃ A c, e = .returned (.slice A zs.length c) ∧ Sl w' w'.heap.size .i64 A zs.length (ints zs) ∧ (∀ x, A = some x → w.heap.size ≤ x.block) ∧ Grow w w' := by
  obtain ⟨A, B, I, hl, hr⟩ := h.lnk
  have HL := Lib.hid (len_any h)
  have hsz := h.size
  have hlen := hr.len
  have HR := Lib.hid hr
  have H := Lib.hid hl
  clear h hl hr
  by_cases hz : zs = []
  · subst hz
    simp only [List.length_nil, Int.cast_ofNat_Int] at HL
    go_enter Tryz.func86, Tryz.ntmps86
    go_wp2
    go_step3
    go_wp2_with (go_at_call 139; (with_reducible refine HL.out.mono ?_); rintro e w' ⟨rfl, rfl⟩)
    rw [Exit.noGoto_ret]
    go_ret
    exact ⟨none, 0, rfl, Sl.nil _ _ _ _, fun x hx => (by cases hx), Kept.refl _ _⟩
  · have hz' : ((zs.length : Int) == 0) = false := by
      rw [beq_eq_false_iff_ne]
      have := List.length_pos_iff.2 hz
      omega
    go_enter Tryz.func86, Tryz.ntmps86
    go_wp2
    go_step3
    go_wp2_with (go_at_call 139; (with_reducible refine HL.out.mono ?_); rintro e w' ⟨rfl, rfl⟩)
    go_step3
    go_wp2
    go_loopg [3, 4] zs.length (fun g v i wr => ∃ j : Nat, j + g = zs.length ∧ i = .int .i64 (pl zs j : Int) ∧ wr.ownsRow w.heap.size 3 1 v j (((ints zs).take j).map (Value.int .i64)) ∧ Below w.heap.size w wr)
    case atStart => exact ⟨0, by omega, rfl, World.ownsRow_nil _ _ _ _, Below.refl _ _⟩
    case round =>
      obtain ⟨j, hg, rfl, hown, hbel⟩ := hrel
      have HO := Lib.hid hown
      have HB := Lib.hid hbel
      have HG := Lib.hid hg
      have hdev := H.out.kept (Kept.of_below hbel (F := fun _ => False)) (fun _ x => x.elim)
      have hpl := pl_le HR.out.lt j (by omega)
      have hplz : (pl zs j : Int) ≤ (n : Int) := by omega
      have c0 := hdev.c0
      have b0 := hdev.b hpl
      have hst := HR.out.step (i := j) (by omega)
      by_cases hj : j < zs.length
      · rw [hst, if_pos hj, show ((pl zs (j + 1) : Nat) : Int) = ((zs.getD j 0 : Nat) : Int) + 1 from rfl] at b0
        have hx := HR.out.lt (zs.getD j 0) (by rw [List.getD_eq_getElem?_getD, List.getElem?_eq_getElem hj]; exact List.getElem_mem _)
        have HE : Hid ((ints zs).take (j + 1) = (ints zs).take j ++ [((zs.getD j 0 : Nat) : Int)]) := by
          show _ = _
          rw [← ints_get, List.take_add_one, List.getD_eq_getElem?_getD, List.getElem?_eq_getElem (by rw [ints_len]; exact hj)]; rfl
        have HPE : Hid ((pl zs (j + 1) : Int) = ((zs.getD j 0 : Nat) : Int) + 1) := rfl
        have hbs : w.heap.size ≤ wr.heap.size := hbel.size
        clear hst hdev hown hbel hg
        generalize zs.getD j 0 = x at *
        generalize pl zs j = p at *
        have hxz : (x : Int) < (n : Int) := by omega
        go_wp2_with (at_builtin; refine wpList_append_one rfl (.tmp 17) (.tmp 20) 33 rfl w.heap.size 3 (.int .i64 0) 8 Tryz.underlying33 infoI rfl _ j _ rfl (World.ownsRow.alloc HO.out _) wr.heap.size (.int .i64 (x : Int)) rfl (cell_new1 _ _ _) rfl (by unfold maxLen; omega) (by omega) (by simp; omega) ?_; intro g cap w2 hown hbel; have HOW := Lib.hid hown; have HBW := Lib.hid hbel; clear hown hbel)
        go_roundg (gk - 1)
        case measure => have := HG.out; omega
        case rel => exact ⟨j + 1, by have := HG.out; omega, by rw [HPE.out], by rw [HE.out]; simpa using HOW.out, (HB.out.alloc hbs _).trans HBW.out⟩
      · obtain rfl : j = zs.length := by omega
        rw [hst, if_neg hj] at b0
        obtain ⟨A', c', rfl, hsl⟩ := Sl.of_row1 (n := zs.length) hown
        rw [List.take_of_length_le (by rw [ints_len]; omega)] at hsl
        have HSL := Lib.hid hsl
        have HNEW : Hid (∀ x, A' = some x → w.heap.size ≤ x.block) := fun x e => (World.ownsRow.lt hown x.block (by rw [e]; rfl)).1
        clear hst hdev hown hbel hg hsl
        simp only [Int.cast_ofNat_Int] at b0
        go_wp2
        rw [Exit.noGoto_ret]
        go_ret
        exact ⟨A', c', rfl, HSL.out, HNEW.out, Kept.of_below HB.out⟩
end
end Go.Proofs.YtbnkpnllgoghnaaGreat.ListD

namespace Go.Proofs.YtbnkpnllgoghnaaGreat.ListR
open Go.ChangeShapes Go.WideShapes Go.ChangeAt Go.RowKit
open Go.Proofs.YtbnkpnllgoghnaaGreat.Mem Go.Proofs.YtbnkpnllgoghnaaGreat.Blk Go.Proofs.YtbnkpnllgoghnaaGreat.ListM Go.Proofs.YtbnkpnllgoghnaaGreat.Rowed Go.Proofs.YtbnkpnllgoghnaaGreat.ListC Go.Proofs.YtbnkpnllgoghnaaGreat.ListD Go.Proofs.YtbnkpnllgoghnaaGreat.Stages
/-! ### append of a slice of numbers, empty or not -/
section
variable {w : World} {base n : Nat} {v : Value} {zs ys : List Int}
end
/-! ### The document's list in memory -/
/-- At block m: n numbers, zs are in; its slice lies in no block of F. -/
structure RefAt (w : World) (m n : Nat) (F : Nat → Prop) (zs : List Nat) : Prop where
  hd : ∃ A c, Row w m 2 (fun j => if j = 0 then .int .i64 (n : Int) else .slice A zs.length c) ∧ Sl w w.heap.size .i64 A zs.length (ints zs) ∧ (zs.length ≤ c ∧ c ≤ maxLen) ∧ ∀ x, 0 < zs.length → A = some x → x.block ≠ m ∧ ¬ F x.block
  fm : ¬ F m
section
variable {w w' : World} {m n : Nat} {F G : Nat → Prop} {zs : List Nat}
theorem RefAt.kept (h : RefAt w m n F zs) (hk : Kept G w w') (hG : ∀ k, G k → F k) : RefAt w' m n F zs := by
  obtain ⟨A, c, h1, h2, h3, h4⟩ := h.hd
  refine ⟨⟨A, c, h1.kept hk fun x => h.fm (hG _ x), ⟨h2.1, fun hn => ?_⟩, h3, h4⟩, h.fm⟩
  obtain ⟨b, off, rfl, hb, hc⟩ := h2.2 hn
  exact ⟨b, off, rfl, Nat.lt_of_lt_of_le hb hk.size, fun j hj => (hk.cell (p := ⟨b, off + j, none⟩) hb (fun x => (h4 _ hn rfl).2 (hG _ x))).trans (hc j hj)⟩
theorem RefAt.grow (h : RefAt w m n F zs) (hk : Grow w w') : RefAt w' m n F zs := h.kept hk fun _ x => x.elim
theorem RefAt.lt (h : RefAt w m n F zs) : m < w.heap.size := by
  obtain ⟨A, c, h1, _⟩ := h.hd
  exact h1.lt
/-- Other blocks are barred; of those that were there none of its own. -/
theorem RefAt.widen (h : RefAt w m n F zs) (hG : ∀ k, k < w.heap.size → G k → F k) : RefAt w m n G zs := by
  have hm := h.lt
  obtain ⟨A, c, h1, h2, h3, h4⟩ := h.hd
  refine ⟨⟨A, c, h1, h2, h3, fun x hn e => ?_⟩, fun hg => h.fm (hG _ hm hg)⟩
  obtain ⟨b, off, e', hb, _⟩ := h2.2 hn
  rw [e'] at e
  injection e with e
  subst e
  have := h4 _ hn e'
  exact ⟨this.1, fun hg => this.2 (hG _ hb hg)⟩
/-- Another slice is laid into it. -/
theorem RefAt.put {ys : List Nat} {A : Option Addr} {c : Nat} (h : RefAt w m n F zs) (hs : Sl w w.heap.size .i64 A ys.length (ints ys)) (hc : ys.length ≤ c ∧ c ≤ maxLen) (hA : ∀ x, 0 < ys.length → A = some x → x.block ≠ m ∧ ¬ F x.block) :
    RefAt (w.setCell ⟨m, 1, none⟩ (.slice A ys.length c)) m n F ys := by
  obtain ⟨A0, c0, h1, h2, h3, h4⟩ := h.hd
  refine ⟨⟨A, c, (h1.set 1 _).congr fun i hi => ?_, ⟨hs.1, fun hn => ?_⟩, hc, hA⟩, h.fm⟩
  · have : i = 0 ∨ i = 1 := by omega
    rcases this with rfl | rfl <;> rfl
  · obtain ⟨b, off, rfl, hb, hcl⟩ := hs.2 hn
    refine ⟨b, off, rfl, by simpa using hb, fun j hj => ?_⟩
    have := (kept_set w m 1 (.slice (some ⟨b, off, none⟩) ys.length c)).cell (p := ⟨b, off + j, none⟩) hb (hA _ hn rfl).1
    rw [this, hcl j hj]
end
/-- Where a number stands; -1. -/
def placeI (zs : List Nat) (k : Int) : Int := if okO zs k then ((zs.idxOf k.toNat : Nat) : Int) else -1
end Go.Proofs.YtbnkpnllgoghnaaGreat.ListR

namespace Go.Proofs.YtbnkpnllgoghnaaGreat.Cells
open Go.RowKit
open Go.Proofs.YtbnkpnllgoghnaaGreat.Mem Go.Proofs.YtbnkpnllgoghnaaGreat.Blk
/-- Block b holds in its first n cells the values 'f i', and may be written. -/
def Row (w : World) (b n : Nat) (f : Nat → Value) : Prop := ∃ cur t, w.heap[b]? = some (.cells cur t (0, 0)) ∧ n ≤ cur.size ∧ ∀ i, i < n → cur[i]? = some (f i)
section
variable {w w' : World} {b n : Nat} {f g : Nat → Value} {F : Nat → Prop}
theorem Row.lt (h : Row w b n f) : b < w.heap.size := by
  obtain ⟨c, t, hb, _, _⟩ := h
  exact (Array.getElem?_eq_some_iff.1 hb).1
theorem Row.cell (h : Row w b n f) {i : Nat} (hi : i < n) : w.cell? ⟨b, i, none⟩ = some (f i) := by
  obtain ⟨c, t, hb, _, hc⟩ := h
  simp [World.cell?, hb, hc i hi]
theorem Row.frozen (h : Row w b n f) (i : Nat) : w.frozen? ⟨b, i, none⟩ = false := by
  obtain ⟨c, t, hb, _, _⟩ := h
  simp [World.frozen?, hb]
theorem Row.congr (h : Row w b n f) (e : ∀ i, i < n → f i = g i) : Row w b n g := by
  obtain ⟨c, t, hb, hn, hc⟩ := h
  exact ⟨c, t, hb, hn, fun i hi => by rw [hc i hi, e i hi]⟩
theorem Row.of_block (h : Row w b n f) (e : w'.heap[b]? = w.heap[b]?) : Row w' b n f := by
  obtain ⟨c, t, hb, hn, hc⟩ := h
  exact ⟨c, t, e.trans hb, hn, hc⟩
theorem Row.kept (h : Row w b n f) (hk : Kept F w w') (hf : ¬ F b) : Row w' b n f := h.of_block (hk.block b h.lt hf)
theorem Row.set (h : Row w b n f) (i : Nat) (v : Value) : Row (w.setCell ⟨b, i, none⟩ v) b n (fun j => if j = i then v else f j) := by
  obtain ⟨c, t, hb, hn, hc⟩ := h
  refine ⟨c.setIfInBounds i v, t, ?_, by simpa using hn, fun j hj => ?_⟩
  · simp [World.setCell, Array.getElem?_modify, hb]
  · rw [Array.getElem?_setIfInBounds]
    by_cases e : j = i
    · subst e
      simp [show j < c.size by omega]
    · rw [if_neg (fun h => e h.symm)]
      show c[j]? = some (if j = i then v else f j)
      rw [if_neg e]
      exact hc j hj
theorem Row.other (h : Row w b n f) {p : Addr} (hp : b ≠ p.block) (v : Value) : Row (w.setCell p v) b n f := h.of_block (heap_setCell_other w p b v hp)
theorem Row.of_blk {t : TypeId} {cs : List Value} (h : Blk w b t cs) (hn : cs.length = n) (hf : ∀ i, i < n → cs[i]? = some (f i)) : Row w b n f :=
  ⟨cs.toArray, t, h, by simp [hn], fun i hi => by simpa using hf i hi⟩
end
theorem kept_set (w : World) (b i : Nat) (v : Value) : Kept (fun x => x = b) w (w.setCell ⟨b, i, none⟩ v) := (Kept.refl (fun x => x = b) w).setCell (p := ⟨b, i, none⟩) (fun _ => rfl) v
end Go.Proofs.YtbnkpnllgoghnaaGreat.Cells

namespace Go.Proofs.YtbnkpnllgoghnaaGreat.Orow
open Go.RowKit
open Go.Proofs.YtbnkpnllgoghnaaGreat.Mem Go.Proofs.YtbnkpnllgoghnaaGreat.Blk Go.Proofs.YtbnkpnllgoghnaaGreat.Cells
/-- Block g: room for cap elements of s cells; the first n of them hold the values 'f i'. -/
def OR (w : World) (g : Nat) (t : TypeId) (s cap n : Nat) (f : Nat → Value) : Prop :=
  ∃ cur, w.heap[g]? = some (.cells cur t (0, 0)) ∧ cur.size = cap * s ∧ n ≤ cap ∧ cap ≤ maxLen ∧ ∀ i, i < n * s → cur[i]? = some (f i)
section
variable {w w' : World} {g s cap n : Nat} {t : TypeId} {f f' : Nat → Value} {F : Nat → Prop}
theorem OR.row (h : OR w g t s cap n f) : Row w g (n * s) f := by
  obtain ⟨cur, hb, hs, hn, _, hc⟩ := h
  exact ⟨cur, t, hb, by rw [hs]; exact Nat.mul_le_mul_right s hn, hc⟩
theorem OR.lt (h : OR w g t s cap n f) : g < w.heap.size := h.row.lt
theorem OR.cell (h : OR w g t s cap n f) {i : Nat} (hi : i < n * s) : w.cell? ⟨g, i, none⟩ = some (f i) := h.row.cell hi
theorem OR.frozen (h : OR w g t s cap n f) (i : Nat) : w.frozen? ⟨g, i, none⟩ = false := h.row.frozen i
theorem OR.le (h : OR w g t s cap n f) : n ≤ cap ∧ cap ≤ maxLen := by
  obtain ⟨cur, _, _, h1, h2, _⟩ := h
  exact ⟨h1, h2⟩
theorem OR.congr (h : OR w g t s cap n f) (e : ∀ i, i < n * s → f i = f' i) : OR w g t s cap n f' := by
  obtain ⟨cur, hb, hs, hn, hm, hc⟩ := h
  exact ⟨cur, hb, hs, hn, hm, fun i hi => by rw [hc i hi, e i hi]⟩
theorem OR.kept (h : OR w g t s cap n f) (hk : Kept F w w') (hf : ¬ F g) : OR w' g t s cap n f := by
  have hl := h.lt
  obtain ⟨cur, hb, hr⟩ := h
  exact ⟨cur, (hk.block g hl hf).trans hb, hr⟩
theorem OR.set (h : OR w g t s cap n f) (i : Nat) (v : Value) : OR (w.setCell ⟨g, i, none⟩ v) g t s cap n (fun j => if j = i then v else f j) := by
  obtain ⟨cur, hb, hs, hn, hm, hc⟩ := h
  have hle : n * s ≤ cap * s := Nat.mul_le_mul_right s hn
  refine ⟨cur.setIfInBounds i v, ?_, by simpa using hs, hn, hm, fun j hj => ?_⟩
  · simp [World.setCell, Array.getElem?_modify, hb]
  · rw [Array.getElem?_setIfInBounds]
    by_cases e : j = i
    · subst e
      simp [show j < cur.size by omega]
    · rw [if_neg (fun h => e h.symm)]
      show cur[j]? = some (if j = i then v else f j)
      rw [if_neg e]
      exact hc j hj
theorem OR.other (h : OR w g t s cap n f) {p : Addr} (hp : g ≠ p.block) (v : Value) : OR (w.setCell p v) g t s cap n f := by
  obtain ⟨cur, hb, hr⟩ := h
  exact ⟨cur, (heap_setCell_other w p g v hp).trans hb, hr⟩
theorem list_of (cur : Array Value) (m : Nat) (h : ∀ i, i < m → cur[i]? = some (f i)) : cur.toList.take m = (List.range m).map f := by
  apply List.ext_getElem?
  intro i
  rw [List.getElem?_take]
  by_cases hi : i < m
  · rw [if_pos hi, Array.getElem?_toList, h i hi]
    simp [hi]
  · rw [if_neg hi]
    simp [Nat.le_of_not_lt hi]
theorem OR.own (h : OR w g t s cap n f) (base : Nat) (hb : base ≤ g) : w.ownsRow base t s (.slice (some ⟨g, 0, none⟩) n cap) n ((List.range (n * s)).map f) := by
  obtain ⟨cur, hg, hs, hn, hm, hc⟩ := h
  exact ⟨by simp, .inr ⟨g, cap, cur, rfl, hb, hg, hn, hm, hs, list_of cur _ hc⟩⟩
theorem OR.of_own {base : Nat} {xs : List Value} (h : w.ownsRow base t s (.slice (some ⟨g, 0, none⟩) n cap) n xs) (hf : ∀ i, i < n * s → xs[i]? = some (f i)) : OR w g t s cap n f ∧ base ≤ g := by
  rcases h.2 with ⟨e, _⟩ | ⟨g', cap', cur, e, hb, hg, h1, h2, h3, h4⟩
  · cases e
  · injection e with e1 e2 e3
    injection e1 with e1
    injection e1 with e1
    subst e1 e3
    refine ⟨⟨cur, hg, h3, h1, h2, fun i hi => ?_⟩, hb⟩
    have := hf i hi
    rw [← h4, List.getElem?_take, if_pos hi] at this
    simpa using this
theorem OR.grow (h : OR w g t s cap n f) (hk : Grow w w') : OR w' g t s cap n f := h.kept hk id
end
/-- Nil, or a block of the call's own; the block lies in G. -/
def OS (w : World) (G : Nat → Prop) (v : Value) (t : TypeId) (s n : Nat) (f : Nat → Value) : Prop :=
  (v = .slice none 0 0 ∧ n = 0) ∨ ∃ g cap, v = .slice (some ⟨g, 0, none⟩) n cap ∧ OR w g t s cap n f ∧ G g
section
variable {w w' : World} {s n : Nat} {v : Value} {t : TypeId} {f u : Nat → Value} {F G : Nat → Prop}
theorem OS.form (h : OS w G v t s n f) (hn : 0 < n) : ∃ g cap, v = .slice (some ⟨g, 0, none⟩) n cap ∧ OR w g t s cap n f ∧ G g := by
  rcases h with ⟨_, e⟩ | h
  · omega
  · exact h
theorem OS.kept (h : OS w G v t s n f) (hk : Kept F w w') (hF : ∀ k, G k → ¬ F k) : OS w' G v t s n f := by
  rcases h with h | ⟨g, cap, e, ho, hg⟩
  · exact .inl h
  · exact .inr ⟨g, cap, e, ho.kept hk (hF g hg), hg⟩
theorem OS.own (h : OS w G v t s n f) : w.ownsRow 0 t s v n ((List.range (n * s)).map f) ∧ ∀ k, v.ownBlock = some k → G k ∧ k < w.heap.size := by
  rcases h with ⟨rfl, rfl⟩ | ⟨g, cap, rfl, ho, hg⟩
  · refine ⟨?_, fun k e => by cases e⟩
    rw [Nat.zero_mul]
    exact World.ownsRow_nil _ _ _ _
  · refine ⟨ho.own 0 (Nat.zero_le _), fun k e => ?_⟩
    injection e with e
    subst e
    exact ⟨hg, ho.lt⟩
/-- What a row becomes behind an append. -/
def joined (f u : Nat → Value) (m i : Nat) : Value := if i < m then f i else u (i - m)
/-- 'append(s, x)', x an element of s cells at an address. -/
theorem append_or {P : Program} (T ty : TypeId) (i : TypeInfo) (z : Value) (bytes : Nat) (hT : P.underlying T = some (.slice t)) (hi : P.info? t = some i) (hz : i.zero = some z) (hs : i.size = s) (hby : i.bytes = bytes) (hzs : z.cells.size = s) (hpos : 0 < s)
    (h : OS w G v t s n f) (hn : n ≤ 100000) (hbb : bytes ≤ 1000000) (vb : Nat) (c : Nat) (hx : ∀ j, j < s → w.cell? ⟨vb, j, none⟩ = some (u j)) (hu : ∀ j, j < s → (u j).oneCell' = true) :
    ∃ g cap w', (Builtin.append_ #[T, T] ty #[v, .slice (some ⟨vb, 0, none⟩) 1 c]).run P w = .ok (.slice (some ⟨g, 0, none⟩) (n + 1) cap) w' ∧ OR w' g t s cap (n + 1) (joined f u (n * s)) ∧ Kept (fun k => v.ownBlock = some k) w w' ∧ (v.ownBlock = some g ∨ g = w.heap.size) := by
  obtain ⟨hown, _⟩ := h.own
  have hl : (List.map u (List.range s)).length = 1 * s := by simp
  obtain ⟨g, cap, w', hr, h2, h3, h4, h5⟩ := run_append_lies (P := P) w T ty 0 t i z s bytes hT hi hz hs hby hzs hpos v n _ hown ⟨vb, 0, none⟩ 1 c ((List.range s).map u) hl
    (fun j x hj => by
      have hjs : j < s := by
        have := (List.getElem?_eq_some_iff.1 hj).1
        simpa using this
      have e : (⟨vb, 0, none⟩ : Addr).add j = ⟨vb, j, none⟩ := by unfold Addr.add; split <;> simp_all
      rw [e, hx j hjs, ← hj]
      simp [hjs])
    (fun x hx => by
      obtain ⟨j, hj, rfl⟩ := List.mem_map.1 hx
      exact hu j (List.mem_range.1 hj)) (by omega) (by unfold maxLen; omega) (by
        have : (n + 1) * bytes ≤ 100001 * 1000000 := Nat.mul_le_mul (by omega) hbb
        omega) (Nat.zero_le _) _ rfl
  refine ⟨g, cap, w', hr, (OR.of_own h2 fun i hi => ?_).1, (Kept.refl _ w).grown h3 fun k hk _ => hk, h4⟩
  have hi' : i < n * s + s := by rw [Nat.add_mul, Nat.one_mul] at hi; exact hi
  unfold joined
  by_cases e : i < n * s
  · rw [if_pos e, List.getElem?_append_left (by simpa using e)]
    simp [e]
  · rw [if_neg e, List.getElem?_append_right (by simpa using Nat.le_of_not_lt e)]
    simp [show i - n * s < s by omega]
end
end Go.Proofs.YtbnkpnllgoghnaaGreat.Orow

namespace Go.Proofs.YtbnkpnllgoghnaaGreat.TabC
open Go.ChangeShapes Go.WideShapes Go.ChangeAt Go.RowKit
open Go.Proofs.YtbnkpnllgoghnaaGreat.Mem Go.Proofs.YtbnkpnllgoghnaaGreat.Blk Go.Proofs.YtbnkpnllgoghnaaGreat.Cells Go.Proofs.YtbnkpnllgoghnaaGreat.TabM Go.Proofs.YtbnkpnllgoghnaaGreat.Stages
/-- The cell j of slots. -/
def scell (T : Tb) (j : Nat) : Value := if j % 2 = 0 then .int .i64 (T.K (j / 2)) else .int .i64 (T.V (j / 2))
theorem scell0 (T : Tb) (p : Nat) : scell T (p * 2) = .int .i64 (T.K p) := by
  unfold scell; rw [if_pos (by omega), show p * 2 / 2 = p by omega]
theorem scell1 (T : Tb) (p : Nat) : scell T (p * 2 + 1) = .int .i64 (T.V p) := by
  unfold scell; rw [if_neg (by omega), show (p * 2 + 1) / 2 = p by omega]
/-- Slots in the block D. -/
def Slots (w : World) (D : Nat) (T : Tb) : Prop := Row w D (T.n * 2) (scell T)
section
variable {w w' : World} {D p : Nat} {T : Tb} {F : Nat → Prop}
theorem Slots.k (h : Slots w D T) (hp : p < T.n) : w.cell? ⟨D, p * 2, none⟩ = some (.int .i64 (T.K p)) := by rw [Row.cell h (by omega), scell0]
theorem Slots.v (h : Slots w D T) (hp : p < T.n) : w.cell? ⟨D, p * 2 + 1, none⟩ = some (.int .i64 (T.V p)) := by rw [Row.cell h (by omega), scell1]
theorem Slots.set (h : Slots w D T) (p : Nat) (k v : Int) : Slots ((w.setCell ⟨D, p * 2, none⟩ (.int .i64 k)).setCell ⟨D, p * 2 + 1, none⟩ (.int .i64 v)) D (T.set p k v) := by
  refine ((Row.set h (p * 2) _).set (p * 2 + 1) _).congr fun i hi => ?_
  by_cases e1 : i = p * 2 + 1
  · rw [if_pos e1, e1, scell1]
    show _ = Value.int .i64 (upd T.V p v p)
    rw [upd_same]
  · rw [if_neg e1]
    by_cases e0 : i = p * 2
    · rw [if_pos e0, e0, scell0]
      show _ = Value.int .i64 (upd T.K p k p)
      rw [upd_same]
    · rw [if_neg e0]
      unfold scell
      have : i / 2 ≠ p := by omega
      show _ = if i % 2 = 0 then Value.int .i64 (upd T.K p k (i / 2)) else Value.int .i64 (upd T.V p v (i / 2))
      rw [upd_other _ _ this, upd_other _ _ this]
theorem Slots.congr {U : Tb} (h : Slots w D T) (hn : T.n = U.n) (hk : ∀ j, j < T.n → T.K j = U.K j) (hv : ∀ j, j < T.n → T.V j = U.V j) : Slots w D U := by
  unfold Slots at *
  rw [← hn]
  refine Row.congr h fun i hi => ?_
  unfold scell
  rw [hk _ (by omega), hv _ (by omega)]
end
/-- The table at block d, its slots at block D; c: its count. -/
structure Raw (w : World) (d D : Nat) (T : Tb) (c : Int) : Prop where
  hd : Row w d 2 fun j => if j = 0 then .slice (some ⟨D, 0, none⟩) T.n T.n else .int .i64 c
  sl : Slots w D T
  ne : d ≠ D
  pos : 1 ≤ T.n
  size : T.n ≤ 1024
/-- The blocks of a table. -/
def Own (d D k : Nat) : Prop := k = d ∨ k = D
section
variable {w w' : World} {d D p : Nat} {T : Tb} {c : Int} {F : Nat → Prop}
theorem Raw.c0 (h : Raw w d D T c) : w.cell? ⟨d, 0, none⟩ = some (.slice (some ⟨D, 0, none⟩) T.n T.n) := h.hd.cell (i := 0) (by omega)
theorem Raw.c1 (h : Raw w d D T c) : w.cell? ⟨d, 1, none⟩ = some (.int .i64 c) := h.hd.cell (i := 1) (by omega)
theorem Raw.f0 (h : Raw w d D T c) (j : Nat) : w.frozen? ⟨d, j, none⟩ = false := h.hd.frozen j
theorem Raw.f1 (h : Raw w d D T c) (j : Nat) : w.frozen? ⟨D, j, none⟩ = false := Row.frozen h.sl j
theorem Raw.kept (h : Raw w d D T c) (hk : Kept F w w') (hF : ∀ k, F k → ¬ Own d D k) : Raw w' d D T c :=
  ⟨h.hd.kept hk fun x => hF _ x (.inl rfl), Row.kept h.sl hk fun x => hF _ x (.inr rfl), h.ne, h.pos, h.size⟩
theorem Raw.grow (h : Raw w d D T c) (hk : Grow w w') : Raw w' d D T c := h.kept hk fun _ x => x.elim
theorem Raw.lt (h : Raw w d D T c) : d < w.heap.size ∧ D < w.heap.size := ⟨h.hd.lt, Row.lt h.sl⟩
theorem Raw.count (h : Raw w d D T c) (c' : Int) : Raw (w.setCell ⟨d, 1, none⟩ (.int .i64 c')) d D T c' :=
  ⟨(h.hd.set 1 _).congr fun i hi => by
    by_cases e : i = 1
    · subst e; rfl
    · have : i = 0 := by omega
      subst this; rfl, Row.other h.sl h.ne.symm _, h.ne, h.pos, h.size⟩
theorem Raw.set (h : Raw w d D T c) (p : Nat) (k v : Int) : Raw ((w.setCell ⟨D, p * 2, none⟩ (.int .i64 k)).setCell ⟨D, p * 2 + 1, none⟩ (.int .i64 v)) d D (T.set p k v) c :=
  ⟨(h.hd.other h.ne _).other h.ne _, h.sl.set p k v, h.ne, h.pos, h.size⟩
theorem Raw.congr {U : Tb} (h : Raw w d D T c) (hn : T.n = U.n) (hk : ∀ j, j < T.n → T.K j = U.K j) (hv : ∀ j, j < T.n → T.V j = U.V j) : Raw w d D U c := by
  refine ⟨?_, h.sl.congr hn hk hv, h.ne, hn ▸ h.pos, hn ▸ h.size⟩
  rw [← hn]
  exact h.hd
/-- A table. -/
def TabAt (w : World) (d D : Nat) (T : Tb) : Prop := Raw w d D T (T.cnt : Int)
/-! ### Place -/
theorem place_good (key : Int) (n : Nat) (h0 : 0 ≤ key) (h1 : 1 ≤ n) (h2 : n ≤ 1024) :
    Calls Tryz.prog 209 #[.int .i64 key, .int .i64 (n : Int)] w fun e w' => e = .returned (.int .i64 ((place key n : Nat) : Int)) ∧ w = w' := by
  have h1' : (1 : Int) ≤ (n : Int) := by omega
  have h2' : (n : Int) ≤ 1024 := by omega
  go_enter Tryz.func209, Tryz.ntmps209
  go_wp2
  go_ret
  exact ⟨by rw [← place_wrap h1 h2]; rfl, rfl⟩
/-! ### fresh -/
/-- The first i slots as if never used. -/
def wipe (T : Tb) (i : Nat) : Tb := ⟨T.n, fun j => if j < i then -1 else T.K j, fun j => if j < i then 0 else T.V j⟩
theorem wipe_step (T : Tb) (i : Nat) : (wipe T i).set i (-1) 0 = wipe T (i + 1) := by
  unfold wipe Tb.set
  congr 1
  · funext j
    unfold upd
    dsimp only
    by_cases e : j = i
    · rw [if_pos e, if_pos (by omega)]
    · rw [if_neg e]
      by_cases e2 : j < i
      · rw [if_pos e2, if_pos (by omega)]
      · rw [if_neg e2, if_neg (by omega)]
  · funext j
    unfold upd
    dsimp only
    by_cases e : j = i
    · rw [if_pos e, if_pos (by omega)]
    · rw [if_neg e]
      by_cases e2 : j < i
      · rw [if_pos e2, if_pos (by omega)]
      · rw [if_neg e2, if_neg (by omega)]
theorem fresh_any (h : Raw w d D T c) :
    Calls Tryz.prog 175 #[.pointer (some ⟨d, 0, none⟩)] w fun e w' => e = .returned (.tuple #[]) ∧ Raw w' d D (fresh T.n) c ∧ Kept (Own d D) w w' := by
  have c0 := h.c0
  have hsz := h.size
  have hpos := h.pos
  have hszi : (T.n : Int) ≤ 1024 := by omega
  have H := Lib.hid h
  clear h
  go_enter Tryz.func175, Tryz.ntmps175
  go_wp2
  clear c0
  go_loopg [8] T.n (fun g i wr => ∃ j : Nat, j + g = T.n ∧ i = .int .i64 (j : Int) ∧ Raw wr d D (wipe T j) c ∧ Kept (Own d D) w wr)
  case atStart => exact ⟨0, by omega, rfl, H.out, Kept.refl _ _⟩
  case round =>
    obtain ⟨j, hg, rfl, hr, hk⟩ := hrel
    have HR := Lib.hid hr
    have HK := Lib.hid hk
    have HG := Lib.hid hg
    have c0 : wr.cell? ⟨d, 0, none⟩ = some (.slice (some ⟨D, 0, none⟩) T.n T.n) := hr.c0
    have f1 := hr.f1
    by_cases hj : j < T.n
    · have hj' : (j : Int) < (T.n : Int) := by omega
      have k0 := hr.sl.k (p := j) hj
      have k1 := hr.sl.v (p := j) hj
      clear hr hk hg
      go_wp2
      go_roundg (gk - 1)
      case measure => have := HG.out; omega
      case rel =>
        refine ⟨j + 1, by have := HG.out; omega, rfl, ?_, (HK.out.setCell (fun _ => .inr rfl) _).setCell (fun _ => .inr rfl) _⟩
        rw [← wipe_step]
        exact HR.out.set j (-1) 0
    · have hj' : (T.n : Int) ≤ (j : Int) := by omega
      clear hr hk hg
      go_wp2
      go_end0
      refine ⟨rfl, HR.out.congr rfl (fun i hi => ?_) (fun i hi => ?_), HK.out⟩
      · exact if_pos (by have : i < T.n := hi; omega)
      · exact if_pos (by have : i < T.n := hi; omega)
end
end Go.Proofs.YtbnkpnllgoghnaaGreat.TabC

namespace Go.Proofs.YtbnkpnllgoghnaaGreat.TabD
open Go.ChangeShapes Go.WideShapes Go.ChangeAt Go.RowKit
open Go.Proofs.YtbnkpnllgoghnaaGreat.Mem Go.Proofs.YtbnkpnllgoghnaaGreat.Blk Go.Proofs.YtbnkpnllgoghnaaGreat.Cells Go.Proofs.YtbnkpnllgoghnaaGreat.TabM Go.Proofs.YtbnkpnllgoghnaaGreat.TabC Go.Proofs.YtbnkpnllgoghnaaGreat.Stages
section
variable {w : World} {d D : Nat} {T : Tb} {c key : Int}
theorem at_int (p i n : Nat) : ((p : Int) + (i : Int)) % (n : Int) = (((p + i) % n : Nat) : Int) := by rw [Int.natCast_emod, Int.natCast_add]
theorem search_any (h : Raw w d D T c) (h0 : 0 ≤ key) :
    Calls Tryz.prog 194 #[.pointer (some ⟨d, 0, none⟩), .int .i64 key] w fun e w' => e = .returned (.tuple #[.int .i64 (T.search key).1, .int .i64 (T.search key).2]) ∧ w = w' := by
  have c0 := h.c0
  have hsz := h.size
  have hpos := h.pos
  have hszi : (T.n : Int) ≤ 1024 := by omega
  have hposi : 1 ≤ (T.n : Int) := by omega
  have HP := Lib.hid (fun (w : World) => place_good (w := w) key T.n h0 hpos hsz)
  have HPL := Lib.hid (place_lt (key := key) hpos)
  have hpl : ((place key T.n : Nat) : Int) < (T.n : Int) := by have := HPL.out; omega
  have HS : Hid (T.search key = scan T.K T.n (place key T.n) key T.n 0 (-1)) := rfl
  generalize T.search key = R at HS ⊢
  generalize place key T.n = p at *
  have H := Lib.hid h
  clear h
  go_enter Tryz.func194, Tryz.ntmps194
  go_wp2
  go_step3
  go_wp2_with (go_at_call 209; (with_reducible refine (HP.out _).mono ?_); rintro e w' ⟨rfl, rfl⟩)
  go_step3
  go_wp2
  clear c0
  go_loopg [5, 19] T.n (fun g f i wr => ∃ (j : Nat) (fr : Int), j + g = T.n ∧ f = .int .i64 fr ∧ i = .int .i64 (j : Int) ∧ (fr = -1 ∨ (0 ≤ fr ∧ fr < 1024)) ∧ R = scan T.K T.n p key g j fr ∧ w = wr)
  case atStart => exact ⟨0, -1, by omega, rfl, rfl, .inl rfl, HS.out, rfl⟩
  case round =>
    obtain ⟨j, fr, hg, rfl, rfl, hfr, hR, rfl⟩ := hrel
    have HG := Lib.hid hg
    have HF := Lib.hid hfr
    have HR := Lib.hid hR
    have c0 := H.out.c0
    by_cases hj : j < T.n
    · have hm := Nat.mod_lt (p + j) hpos
      have k0 := H.out.sl.k hm
      have hji : (j : Int) < (T.n : Int) := by omega
      obtain ⟨g, rfl⟩ : ∃ g, gk = g + 1 := ⟨gk - 1, by omega⟩
      rw [scan.eq_def] at hR
      dsimp only at hR
      have HA := Lib.hid (at_int p j T.n)
      have hA0 : 0 ≤ ((p : Int) + (j : Int)) % (T.n : Int) := by rw [HA.out]; omega
      have hA1 : ((p : Int) + (j : Int)) % (T.n : Int) < (T.n : Int) := by rw [HA.out]; omega
      by_cases e1 : T.K ((p + j) % T.n) = key
      · rw [if_pos e1] at hR
        have e1' : (T.K ((p + j) % T.n) == key) = true := by rw [e1]; exact beq_self_eq_true _
        subst hR
        clear HR hg hfr e1
        go_wp2
        try rw [Exit.noGoto_ret]
        go_ret2
        exact ⟨by rw [← HA.out]; rfl, rfl⟩
      · rw [if_neg e1] at hR
        have e1' : (T.K ((p + j) % T.n) == key) = false := beq_eq_false_iff_ne.2 e1
        by_cases e2 : T.K ((p + j) % T.n) = -1
        · rw [if_pos e2] at hR
          have e2' : (T.K ((p + j) % T.n) == -1) = true := by rw [e2]; rfl
          clear HR hg hfr e1 e2
          by_cases ef : fr < 0
          · rw [if_pos ef] at hR
            subst hR
            go_wp2
            try rw [Exit.noGoto_ret]
            go_ret2
            exact ⟨by rw [← HA.out]; rfl, rfl⟩
          · rw [if_neg ef] at hR
            have ef' : 0 ≤ fr := by omega
            subst hR
            go_wp2
            try rw [Exit.noGoto_ret]
            go_ret2
            exact ⟨rfl, rfl⟩
        · rw [if_neg e2] at hR
          have e2' : (T.K ((p + j) % T.n) == -1) = false := beq_eq_false_iff_ne.2 e2
          by_cases e3 : T.K ((p + j) % T.n) = -2
          · rw [if_pos e3] at hR
            have e3' : (T.K ((p + j) % T.n) == -2) = true := by rw [e3]; rfl
            clear HR hg hfr e1 e2 e3
            by_cases ef : fr < 0
            · rw [if_pos ef] at hR
              have HR := Lib.hid hR
              clear hR
              go_wp2
              go_roundg g
              case measure => omega
              case rel => exact ⟨j + 1, _, by have := HG.out; omega, rfl, rfl, .inr ⟨by rw [HA.out]; omega, by rw [HA.out]; omega⟩, by rw [HR.out, HA.out], rfl⟩
            · rw [if_neg ef] at hR
              have ef' : 0 ≤ fr := by omega
              have HR := Lib.hid hR
              clear hR
              go_wp2
              go_roundg g
              case measure => omega
              case rel => exact ⟨j + 1, _, by have := HG.out; omega, rfl, rfl, HF.out, HR.out, rfl⟩
          · rw [if_neg e3] at hR
            have e3' : (T.K ((p + j) % T.n) == -2) = false := beq_eq_false_iff_ne.2 e3
            have HR := Lib.hid hR
            clear hR hg hfr e1 e2 e3
            go_wp2
            go_roundg g
            case measure => omega
            case rel => exact ⟨j + 1, _, by have := HG.out; omega, rfl, rfl, HF.out, HR.out, rfl⟩
    · have hji : (T.n : Int) ≤ (j : Int) := by omega
      have hg0 : gk = 0 := by omega
      subst hg0
      have hR' : R = (-1, fr) := hR
      subst hR'
      clear HR hR hfr hg
      go_wp2
      try rw [Exit.noGoto_ret]
      go_ret2
      exact ⟨rfl, rfl⟩
end
end Go.Proofs.YtbnkpnllgoghnaaGreat.TabD

namespace Go.Proofs.YtbnkpnllgoghnaaGreat.TabO
open Go.ChangeShapes Go.WideShapes Go.ChangeAt Go.RowKit
open Go.Proofs.YtbnkpnllgoghnaaGreat.Mem Go.Proofs.YtbnkpnllgoghnaaGreat.Blk Go.Proofs.YtbnkpnllgoghnaaGreat.Cells Go.Proofs.YtbnkpnllgoghnaaGreat.TabM Go.Proofs.YtbnkpnllgoghnaaGreat.TabC Go.Proofs.YtbnkpnllgoghnaaGreat.TabD Go.Proofs.YtbnkpnllgoghnaaGreat.Stages
section
variable {w : World} {d D : Nat} {T : Tb} {c key : Int}
theorem find_nil : Calls Tryz.prog 185 #[.pointer none, .int .i64 key] w fun e w' => e = .returned (.int .i64 (-1)) ∧ w = w' := by
  go_enter Tryz.func185, Tryz.ntmps185
  go_wp2
  go_ret
  exact ⟨rfl, rfl⟩
theorem find_any (h : Raw w d D T c) :
    Calls Tryz.prog 185 #[.pointer (some ⟨d, 0, none⟩), .int .i64 key] w fun e w' => e = .returned (.int .i64 (T.find key)) ∧ w = w' := by
  by_cases h0 : key < 0
  · have HE : Hid (T.find key = -1) := if_pos h0
    clear h
    go_enter Tryz.func185, Tryz.ntmps185
    go_wp2
    go_ret
    exact ⟨by rw [HE.out]; rfl, rfl⟩
  · have HS := Lib.hid (search_any h (key := key) (by omega))
    have HE : Hid (T.find key = (T.search key).1) := if_neg h0
    have h0' : 0 ≤ key := by omega
    clear h h0
    generalize T.search key = R at *
    go_enter Tryz.func185, Tryz.ntmps185
    go_wp2_with (go_at_call 194; (with_reducible refine HS.out.mono ?_); rintro e w' ⟨rfl, rfl⟩)
    go_ret
    exact ⟨by rw [HE.out]; rfl, rfl⟩
theorem get_nil : Calls Tryz.prog 156 #[.pointer none, .int .i64 key] w fun e w' => e = .returned (.int .i64 (-1)) ∧ w = w' := by
  have HF := Lib.hid (find_nil (w := w) (key := key))
  go_enter Tryz.func156, Tryz.ntmps156
  go_wp2_with (go_at_call 185; (with_reducible refine HF.out.mono ?_); rintro e w' ⟨rfl, rfl⟩)
  go_ret
  exact ⟨rfl, rfl⟩
theorem get_any (h : Raw w d D T c) (key : Int) :
    Calls Tryz.prog 156 #[.pointer (some ⟨d, 0, none⟩), .int .i64 key] w fun e w' => e = .returned (.int .i64 (T.get key)) ∧ w = w' := by
  have hsz := h.size
  have hszi : (T.n : Int) ≤ 1024 := by omega
  have HF := Lib.hid (find_any h (key := key))
  rcases find_has (key := key) h.pos with e | ⟨j, hj, e, _, _⟩
  · have HE : Hid (T.get key = -1) := by show _ = _; unfold Tb.get; rw [e]; rfl
    rw [e] at HF
    clear h e
    go_enter Tryz.func156, Tryz.ntmps156
    go_wp2_with (go_at_call 185; (with_reducible refine HF.out.mono ?_); rintro e w' ⟨rfl, rfl⟩)
    go_ret
    exact ⟨by rw [HE.out]; rfl, rfl⟩
  · have HE : Hid (T.get key = T.V j) := by show _ = _; unfold Tb.get; rw [e, if_neg (by omega), Int.toNat_natCast]
    rw [e] at HF
    have c0 := h.c0
    have k1 := h.sl.v hj
    have hji : (j : Int) < (T.n : Int) := by omega
    clear h e
    go_enter Tryz.func156, Tryz.ntmps156
    go_wp2_with (go_at_call 185; (with_reducible refine HF.out.mono ?_); rintro e w' ⟨rfl, rfl⟩)
    go_ret
    exact ⟨by rw [HE.out]; rfl, rfl⟩
/-! ### Put -/
/-- A number, and the table behind the call. -/
def TabPost (d D : Nat) (w : World) (v : Int) (U : Tb) (e : Ending) (w' : World) : Prop := e = .returned (.int .i64 v) ∧ TabAt w' d D U ∧ Kept (Own d D) w w'
theorem put_any (h : TabAt w d D T) (key v : Int) :
    Calls Tryz.prog 179 #[.pointer (some ⟨d, 0, none⟩), .int .i64 key, .int .i64 v] w (TabPost d D w (T.putC key) (T.put key v)) := by
  have hsz := h.size
  have hszi : (T.n : Int) ≤ 1024 := by omega
  by_cases h0 : key < 0
  · have HE : Hid (T.putC key = 1) := if_pos h0
    have HE2 : Hid (T.put key v = T) := by show _ = _; unfold Tb.put; rw [HE.out]; rfl
    have H := Lib.hid h
    clear h
    go_enter Tryz.func179, Tryz.ntmps179
    go_wp2
    go_ret
    rw [HE.out, HE2.out]
    exact ⟨rfl, H.out, Kept.refl _ _⟩
  have h0' : 0 ≤ key := by omega
  have HS := Lib.hid (search_any h (key := key) h0')
  rcases search_has (key := key) h.pos with e1 | ⟨j, hj, e1, _⟩
  · rcases search_free (key := key) h.pos with e2 | ⟨j, hj, e2, hK⟩
    · have HE : Hid (T.putC key = 8) := by show _ = _; unfold Tb.putC; rw [if_neg h0, e1, if_neg (by omega), e2]; rfl
      have HE2 : Hid (T.put key v = T) := by show _ = _; unfold Tb.put; rw [HE.out]; rfl
      rw [e1, e2] at HS
      have H := Lib.hid h
      clear h e1 e2 h0
      go_enter Tryz.func179, Tryz.ntmps179
      go_wp2_with (go_at_call 194; (with_reducible refine HS.out.mono ?_); rintro e w' ⟨rfl, rfl⟩)
      go_ret
      rw [HE.out, HE2.out]
      exact ⟨rfl, H.out, Kept.refl _ _⟩
    · have HE : Hid (T.putC key = 0) := by show _ = _; unfold Tb.putC; rw [if_neg h0, e1, if_neg (by omega), e2, if_neg (by omega)]
      have HE2 : Hid (T.put key v = T.set j key v) := by show _ = _; unfold Tb.put; rw [HE.out, e2, Int.toNat_natCast]; rfl
      have HC := Lib.hid (cnt_set_on (v := v) hj hK h0')
      rw [e1, e2] at HS
      have H := Lib.hid h
      have c0 := h.c0
      have f1 := h.f1
      have k0 := h.sl.k hj
      have k1 := h.sl.v hj
      have hji : (j : Int) < (T.n : Int) := by omega
      have HCL : Hid (T.cnt ≤ T.n) := cnt_le _ _
      have hcz : ((T.cnt : Nat) : Int) ≤ 1024 := by have := HCL.out; omega
      clear h e1 e2 h0
      go_enter Tryz.func179, Tryz.ntmps179
      go_upto_region 11 with (go_at_call 194; (with_reducible refine HS.out.mono ?_); rintro e w' ⟨rfl, rfl⟩)
      have H1 : Hid (Raw ((w.setCell ⟨D, j * 2, none⟩ (.int .i64 key)).setCell ⟨D, j * 2 + 1, none⟩ (.int .i64 v)) d D (T.set j key v) (T.cnt : Int)) := Raw.set H.out j key v
      have HK1 : Hid (Kept (Own d D) w ((w.setCell ⟨D, j * 2, none⟩ (.int .i64 key)).setCell ⟨D, j * 2 + 1, none⟩ (.int .i64 v))) := ((Kept.refl _ w).setCell (fun _ => .inr rfl) _).setCell (fun _ => .inr rfl) _
      generalize (w.setCell ⟨D, j * 2, none⟩ (.int .i64 key)).setCell ⟨D, j * 2 + 1, none⟩ (.int .i64 v) = w1 at H1 HK1 ⊢
      clear c0 f1 k0 k1 H
      have c1 := H1.out.c1
      have f0 := H1.out.f0
      go_wp2
      go_ret
      rw [HE.out, HE2.out]
      refine ⟨rfl, ?_, HK1.out.setCell (fun _ => .inl rfl) _⟩
      have := H1.out.count ((T.cnt : Int) + 1)
      unfold TabAt
      rw [HC.out]
      exact this
  · have HE : Hid (T.putC key = 13) := by show _ = _; unfold Tb.putC; rw [if_neg h0, e1, if_pos (by simp)]
    have HE2 : Hid (T.put key v = T) := by show _ = _; unfold Tb.put; rw [HE.out]; rfl
    rw [e1] at HS
    have H := Lib.hid h
    clear h e1 h0
    go_enter Tryz.func179, Tryz.ntmps179
    go_wp2_with (go_at_call 194; (with_reducible refine HS.out.mono ?_); rintro e w' ⟨rfl, rfl⟩)
    go_ret
    rw [HE.out, HE2.out]
    exact ⟨rfl, H.out, Kept.refl _ _⟩
/-! ### Out -/
theorem out_any (h : TabAt w d D T) (key : Int) :
    Calls Tryz.prog 188 #[.pointer (some ⟨d, 0, none⟩), .int .i64 key] w (TabPost d D w (T.get key) (T.out key)) := by
  have hsz := h.size
  have hszi : (T.n : Int) ≤ 1024 := by omega
  have HF := Lib.hid (find_any h (key := key))
  rcases find_has (key := key) h.pos with e | ⟨j, hj, e, hK, h0⟩
  · have HE : Hid (T.get key = -1) := by show _ = _; unfold Tb.get; rw [e]; rfl
    have HE2 : Hid (T.out key = T) := by show _ = _; unfold Tb.out; rw [e]; rfl
    rw [e] at HF
    have H := Lib.hid h
    clear h e
    go_enter Tryz.func188, Tryz.ntmps188
    go_wp2_with (go_at_call 185; (with_reducible refine HF.out.mono ?_); rintro e w' ⟨rfl, rfl⟩)
    go_ret
    rw [HE.out, HE2.out]
    exact ⟨rfl, H.out, Kept.refl _ _⟩
  · have HE : Hid (T.get key = T.V j) := by show _ = _; unfold Tb.get; rw [e, if_neg (by omega), Int.toNat_natCast]
    have HE2 : Hid (T.out key = if (T.set j (-2) 0).cnt = 0 then fresh T.n else T.set j (-2) 0) := by show _ = _; unfold Tb.out; rw [e, if_neg (by omega), Int.toNat_natCast]
    have HC := Lib.hid (cnt_set_off (k := -2) (v := 0) hj (by omega) (by omega))
    rw [e] at HF
    have H := Lib.hid h
    have c0 := h.c0
    have f1 := h.f1
    have k0 := h.sl.k hj
    have k1 := h.sl.v hj
    have hji : (j : Int) < (T.n : Int) := by omega
    have HCL : Hid (T.cnt ≤ T.n) := cnt_le _ _
    have hcz : ((T.cnt : Nat) : Int) ≤ 1024 := by have := HCL.out; omega
    have hcp : 1 ≤ ((T.cnt : Nat) : Int) := by have := HC.out; omega
    clear h e h0
    go_enter Tryz.func188, Tryz.ntmps188
    go_upto_region 6 with (go_at_call 185; (with_reducible refine HF.out.mono ?_); rintro e w' ⟨rfl, rfl⟩)
    have H1 : Hid (Raw ((w.setCell ⟨D, j * 2, none⟩ (.int .i64 (-2))).setCell ⟨D, j * 2 + 1, none⟩ (.int .i64 0)) d D (T.set j (-2) 0) (T.cnt : Int)) := Raw.set H.out j (-2) 0
    have HK1 : Hid (Kept (Own d D) w ((w.setCell ⟨D, j * 2, none⟩ (.int .i64 (-2))).setCell ⟨D, j * 2 + 1, none⟩ (.int .i64 0))) := ((Kept.refl _ w).setCell (fun _ => .inr rfl) _).setCell (fun _ => .inr rfl) _
    generalize (w.setCell ⟨D, j * 2, none⟩ (.int .i64 (-2))).setCell ⟨D, j * 2 + 1, none⟩ (.int .i64 0) = w1 at H1 HK1 ⊢
    clear c0 f1 k0 k1 H
    have c1 := H1.out.c1
    have f0 := H1.out.f0
    go_upto_region 7 with (fail)
    have H2 : Hid (Raw (w1.setCell ⟨d, 1, none⟩ (.int .i64 ((T.cnt : Int) - 1))) d D (T.set j (-2) 0) ((T.set j (-2) 0).cnt : Int)) := by
      have := H1.out.count ((T.cnt : Int) - 1)
      rw [show ((T.set j (-2) 0).cnt : Int) = (T.cnt : Int) - 1 by have := HC.out; omega]
      exact this
    have HK2 : Hid (Kept (Own d D) w (w1.setCell ⟨d, 1, none⟩ (.int .i64 ((T.cnt : Int) - 1)))) := HK1.out.setCell (fun _ => .inl rfl) _
    generalize w1.setCell ⟨d, 1, none⟩ (.int .i64 ((T.cnt : Int) - 1)) = w2 at H2 HK2 ⊢
    clear c1 f0 H1 HK1
    have c1 := H2.out.c1
    by_cases hz : (T.set j (-2) 0).cnt = 0
    · rw [if_pos hz] at HE2
      have HFR := Lib.hid (fresh_any H2.out)
      rw [hz] at c1
      simp only [Int.cast_ofNat_Int] at c1
      go_wp2_with (go_at_call 175; (with_reducible refine HFR.out.mono ?_); rintro e w' ⟨rfl, hr, hk⟩; have H3 := Lib.hid hr; have HK3 := Lib.hid hk; clear hr hk)
      go_ret
      rw [HE.out, HE2.out]
      refine ⟨rfl, ?_, HK2.out.trans HK3.out⟩
      unfold TabAt
      rw [cnt_fresh, ← hz]
      exact H3.out
    · rw [if_neg hz] at HE2
      have hzi : ((((T.set j (-2) 0).cnt : Nat) : Int) == 0) = false := beq_eq_false_iff_ne.2 (by omega)
      go_wp2
      go_ret
      rw [HE.out, HE2.out]
      exact ⟨rfl, H2.out, HK2.out⟩
/-! ### New -/
theorem new_bad (k : Int) (hk : ¬ (1 ≤ k ∧ k ≤ 1024)) : Calls Tryz.prog 141 #[.int .i64 k] w fun e w' => e = .returned (.pointer none) ∧ w = w' := by
  by_cases h0 : k < 1
  · clear hk
    go_enter Tryz.func141, Tryz.ntmps141
    go_wp2
    go_ret
    exact ⟨rfl, rfl⟩
  · have h1 : 1024 < k := by omega
    have h0' : 1 ≤ k := by omega
    clear hk h0
    go_enter Tryz.func141, Tryz.ntmps141
    go_wp2
    go_ret
    exact ⟨rfl, rfl⟩
theorem infoS : (Tryz.prog.info? 177).map (fun i => (i.zero, i.size, i.bytes)) = some (some (.agg #[.int .i64 0, .int .i64 0]), 2, 16) := by kernel_rfl
theorem made2 (w : World) (n : Nat) (hn : n ≤ 1024) : (Instr.makeSlice 171 (.int .i64 (n : Int)) (.int .i64 (n : Int))).run Tryz.prog w = .ok (.slice (some ⟨w.heap.size, 0, none⟩) n n) (w.alloc (.cells (madeCells #[.int .i64 0, .int .i64 0] (n * 2)) 177)) := by
  obtain ⟨i, hi, hz, hs, hb⟩ := info_parts infoS
  have := run_make (P := Tryz.prog) w 171 177 i _ Tryz.underlying171 hi hz .i64 .i64 (n : Int) (n : Int) (by omega) (Int.le_refl _) (by rw [hb]; omega) (by omega)
  rw [hs, Int.toNat_natCast] at this
  exact this
/-- What New makes. -/
def NewPost (n : Nat) (w : World) (e : Ending) (w' : World) : Prop :=
  ∃ d D, e = .returned (.pointer (some ⟨d, 0, none⟩)) ∧ TabAt w' d D (fresh n) ∧ w.heap.size ≤ d ∧ w.heap.size ≤ D ∧ Grow w w'
theorem new_good (n : Nat) (h1 : 1 ≤ n) (hn : n ≤ 1024) : Calls Tryz.prog 141 #[.int .i64 (n : Int)] w (NewPost n w) := by
  have hn' : (n : Int) ≤ 1024 := by omega
  have h1' : 1 ≤ (n : Int) := by omega
  have km := fun (w : World) => made2 w n hn
  go_enter Tryz.func141, Tryz.ntmps141
  go_upto_region 4 with (fail)
  clear km
  have hb := Blk.new (w.alloc (.cells (madeCells #[.int .i64 0, .int .i64 0] (n * 2)) 177)) 173 [.slice (some ⟨w.heap.size, 0, none⟩) n n, .int .i64 0]
  have e1 : (w.alloc (.cells (madeCells #[.int .i64 0, .int .i64 0] (n * 2)) 177)).heap.size = w.heap.size + 1 := by simp
  rw [e1] at hb
  have hr : Slots (w.alloc (.cells (madeCells #[.int .i64 0, .int .i64 0] (n * 2)) 177)) w.heap.size ⟨n, fun _ => 0, fun _ => 0⟩ :=
    ⟨_, _, heap_alloc_new w _, by simp [size_madeCells], fun i hi => by
      have hi : i < n * 2 := hi
      simp only [madeCells, Array.getElem?_map, Array.getElem?_range, hi, if_pos, Option.map_some]
      congr 1
      unfold scell
      have : i % 2 = 0 ∨ i % 2 = 1 := by omega
      rcases this with e | e <;> simp [e]⟩
  have HR : Hid (Raw ((w.alloc (.cells (madeCells #[.int .i64 0, .int .i64 0] (n * 2)) 177)).alloc (.cells #[.slice (some ⟨w.heap.size, 0, none⟩) n n, .int .i64 0] 173)) (w.heap.size + 1) w.heap.size ⟨n, fun _ => 0, fun _ => 0⟩ 0) :=
    ⟨Row.of_blk hb rfl (fun i hi => by
      have : i = 0 ∨ i = 1 := by omega
      rcases this with rfl | rfl <;> rfl), Row.kept hr (F := fun _ => False) ((Kept.refl _ _).alloc _) id, by omega, h1, hn⟩
  have HG : Hid (Grow w ((w.alloc (.cells (madeCells #[.int .i64 0, .int .i64 0] (n * 2)) 177)).alloc (.cells #[.slice (some ⟨w.heap.size, 0, none⟩) n n, .int .i64 0] 173))) := ((Kept.refl _ _).alloc _).alloc _
  clear hb hr e1
  generalize (w.alloc (.cells (madeCells #[.int .i64 0, .int .i64 0] (n * 2)) 177)).alloc (.cells #[.slice (some ⟨w.heap.size, 0, none⟩) n n, .int .i64 0] 173) = wx at HR HG ⊢
  have HFR := Lib.hid (fresh_any HR.out)
  go_wp2_with (go_at_call 175; (with_reducible refine HFR.out.mono ?_); rintro e w' ⟨rfl, hr, hk⟩; have H3 := Lib.hid hr; have HK3 := Lib.hid hk; clear hr hk)
  go_ret
  refine ⟨_, _, rfl, ?_, Nat.le_succ _, Nat.le_refl _, HG.out.then HK3.out fun k hk hF => ?_⟩
  · unfold TabAt
    rw [cnt_fresh]
    exact H3.out
  · rcases hF with hF | hF <;> omega
/-! ### Slots -/
/-- The cells of slots, in a row. -/
def cellsOf (T : Tb) : List Value := (List.range (T.n * 2)).map (scell T)
end
end Go.Proofs.YtbnkpnllgoghnaaGreat.TabO
