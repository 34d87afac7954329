/-
  What the methods of package disk compute (chapter 3), more: Crash.
-/
import Derived.Test.YtfjcbcpfhjaeeaaDevSettle
namespace Go.Proofs.Ytfjcbcpfhjaeeaa.DevX
open Go.ChangeShapes Go.WideShapes Go.ChangeAt Go.RowKit
open Go.Proofs.Ytfjcbcpfhjaeeaa.SumM Go.Proofs.Ytfjcbcpfhjaeeaa.Mem Go.Proofs.Ytfjcbcpfhjaeeaa.Blk Go.Proofs.Ytfjcbcpfhjaeeaa.PageM Go.Proofs.Ytfjcbcpfhjaeeaa.Str Go.Proofs.Ytfjcbcpfhjaeeaa.Dev Go.Proofs.Ytfjcbcpfhjaeeaa.LibC Go.Proofs.Ytfjcbcpfhjaeeaa.DevC Go.Proofs.Ytfjcbcpfhjaeeaa.DevM Go.Proofs.Ytfjcbcpfhjaeeaa.DevY Go.Proofs.Ytfjcbcpfhjaeeaa.DevK Go.Proofs.Ytfjcbcpfhjaeeaa.Stages

section
variable {w : World} {d D W : Nat} {G : Nat → Prop} {S : Dv}

theorem crash_down (h : DevAt w d D W G S) (A : Option Addr) (n cap : Nat) (hd : S.down = true) :
    Calls Try.prog 20 #[.pointer (some ⟨d, 0, none⟩), .slice A n cap] w fun e w' => e = .returned (.bool false) ∧ w = w' := by
  have c4 := h.c4
  rw [hd] at c4
  clear h hd
  go_enter Try.func20, Try.ntmps20
  go_wp2
  go_step3
  go_wp2
  rw [Exit.noGoto_ret]
  go_ret
  exact ⟨rfl, rfl⟩

/-- A device that has crashed, its first j pages settled. -/
def fallS (S : Dv) (bs : List Int) (j : Nat) : Dv := { S with dur := fun q => if q < j then fallen S bs q else S.dur q, down := true }
theorem cnt_mono (S : Dv) {a b : Nat} (h : a ≤ b) : cnt S a ≤ cnt S b := by
  induction b with
  | zero => obtain rfl : a = 0 := by omega
            exact Nat.le_refl _
  | succ b ih =>
    by_cases e : a = b + 1
    · subst e; exact Nat.le_refl _
    · have := ih (by omega)
      have e2 : cnt S (b + 1) = cnt S b + (if (S.wr b).isSome then 1 else 0) := rfl
      omega
theorem cnt_le (S : Dv) : ∀ j, cnt S j ≤ j
  | 0 => Nat.le_refl _
  | j + 1 => by
    have := cnt_le S j
    unfold cnt
    split <;> omega
theorem fate_out {bs : List Int} {t : Nat} (h : bs.length ≤ t / 4) : fate bs t = 0 := by
  unfold fate; rw [if_neg (by omega)]
/-- Where the bits are at their end the others are lost. -/
theorem fallen_out {bs : List Int} {j q : Nat} (h : bs.length ≤ cnt S j / 4) (hq : j ≤ q) : fallen S bs q = S.dur q := by
  unfold fallen
  cases S.wr q with
  | none => rfl
  | some z =>
    have := cnt_mono S hq
    show settleI (fate bs (cnt S q)) (S.dur q) z = S.dur q
    rw [fate_out (by have : cnt S j / 4 ≤ cnt S q / 4 := Nat.div_le_div_right this; omega)]
    rfl

theorem u8_and3 (m : Nat) (h : m < 256) : bits .and .u8 (m : Int) 3 = ((m % 4 : Nat) : Int) := by
  have : ∀ m : Fin 256, bits .and .u8 (m.val : Int) 3 = ((m.val % 4 : Nat) : Int) := by decide +kernel
  exact this ⟨m, h⟩
theorem two_bits {v : Int} (hv : U8 v) (e : Nat) : bits .and .u8 (v / 2 ^ e) 3 = ((v.toNat / 2 ^ e % 4 : Nat) : Int) := by
  obtain ⟨h1, h2⟩ := hv
  obtain ⟨V, rfl⟩ := Int.eq_ofNat_of_zero_le h1
  have h3 : ((V : Int) / 2 ^ e) = ((V / 2 ^ e : Nat) : Int) := by
    rw [Int.natCast_ediv, Int.natCast_pow]; rfl
  have h4 : V / 2 ^ e ≤ V := Nat.div_le_self _ _
  rw [h3, u8_and3 _ (by omega)]
  rfl

/-- The end: what is left is cleared. -/
theorem fall_end {wr : World} {bs : List Int} {j : Nat} (hdev : DevAt wr d D W G (fallS S bs j)) (hkk : Kept (Own d D W) w wr) (hq : ∀ q, j ≤ q → q < S.N → fallen S bs q = S.dur q) (hd : S.down = false) :
    wr.cell? ⟨d, 1, none⟩ = some (.slice (some ⟨W, 0, none⟩) S.N S.N) ∧
    (∀ ty, (Builtin.clear_ #[42] ty #[.slice (some ⟨W, 0, none⟩) S.N S.N]).run Try.prog wr = .ok (.tuple #[]) (wr.setCells W 0 (List.replicate S.N (.slice none 0 0)))) ∧
    DevAt (wr.setCells W 0 (List.replicate S.N (.slice none 0 0))) d D W G (crashS S bs) ∧ Kept (Own d D W) w (wr.setCells W 0 (List.replicate S.N (.slice none 0 0))) := by
  have hN : 1 ≤ S.N ∧ S.N ≤ 48 := hdev.size
  obtain ⟨wv, hwr, _⟩ := hdev.wr
  have hwr' : Row wr W S.N wv := hwr
  have c1 : wr.cell? ⟨d, 1, none⟩ = some (.slice (some ⟨W, 0, none⟩) S.N S.N) := hdev.c1
  refine ⟨c1, fun ty => Lib.run_clear_slice (P := Try.prog) wr 42 28 ty (.slice none 0 0) Try.underlying42 zero_sl rfl rfl W 0 S.N S.N (by omega) (fun q hq => by rw [Nat.zero_add, hwr'.cell hq]; rfl) (fun q _ => hwr'.frozen _), ?_, hkk.trans ((kept_setCells _ _ _).mono fun _ _ e => .inr (.inr e))⟩
  have hcr : crashS S bs = { S with dur := fallen S bs, wr := fun _ => none, down := true } := by
    unfold crashS
    rw [hd, if_neg (by decide)]
  rw [hcr]
  refine (hdev.clear).congr rfl rfl rfl rfl (fun p hp => ?_) (fun _ _ => rfl)
  have hp' : p < S.N := hp
  show fallen S bs p = (if p < j then fallen S bs p else S.dur p)
  by_cases e : p < j
  · rw [if_pos e]
  · rw [if_neg e]; exact hq p (by omega) hp'

set_option maxHeartbeats 1000000 in
theorem crash_good (h : DevAt w d D W G S) (A : Option Addr) (n cap B : Nat) (bs : List Int) (hd : S.down = false) (hs : ∀ w', Kept (Own d D W) w w' → Sl w' B .u8 A n bs) (hz : Bytes bs) (hm : n ≤ maxLen) (low : ∀ x, G x → x < w.heap.size) :
    Calls Try.prog 20 #[.pointer (some ⟨d, 0, none⟩), .slice A n cap] w (DevPost d D W G w (.bool true) (crashS S bs)) := by
  have q22 : ∀ (w : World) (a : Option Addr) (n c n' c' : Nat), (binOp .eql 28 (.slice a n c) (.slice none n' c')).run Try.prog w = .ok (.bool a.isNone) w := fun w a n c n' c' => Lib.run_eql_slice_nil w _ _ a n c n' c' Try.underlying28
  unfold maxLen at hm
  have hN := h.size
  have c4 := h.c4
  rw [hd] at c4
  have f4 := h.fr 4
  have H1 : Hid (DevAt (w.setCell ⟨d, 4, none⟩ (.bool true)) d D W G { S with down := true }) := h.field rfl rfl rfl rfl
  have HK1 : Hid (Kept (Own d D W) w (w.setCell ⟨d, 4, none⟩ (.bool true))) := (Kept.refl _ _).setCell (fun _ => .inl rfl) _
  have HM0 : Hid (DevAt (w.setCell ⟨d, 4, none⟩ (.bool true)) d D W G (fallS S bs 0)) := H1.out.congr rfl rfl rfl rfl (fun p _ => by show (if p < 0 then fallen S bs p else S.dur p) = S.dur p; rw [if_neg (by omega)]) (fun _ _ => rfl)
  have c1 := H1.out.c1
  have c1' : (w.setCell ⟨d, 4, none⟩ (.bool true)).cell? ⟨d, 1, none⟩ = some (.slice (some ⟨W, 0, none⟩) S.N S.N) := c1
  have HS := Lib.hid hs
  have HLOW := Lib.hid low
  have HCR : Hid (crashS S bs = { S with dur := fallen S bs, wr := fun _ => none, down := true }) := by
    show crashS S bs = { S with dur := fallen S bs, wr := fun _ => none, down := true }
    unfold crashS
    rw [hd, if_neg (by decide)]
  have hl := (hs w (Kept.refl _ _)).len
  have HL := Lib.hid hl
  have HDN := Lib.hid hd
  clear h hs low hd c1 hl
  go_enter Try.func20, Try.ntmps20
  go_wp2
  go_step3
  go_wp2
  go_step3
  go_wp2
  clear c1' c4 f4
  go_loopg [5, 24] S.N (fun g t i wr => ∃ j : Nat, j + g = S.N ∧ i = .int .i64 (j : Int) ∧ t = .int .i64 (cnt S j : Int) ∧ cnt S j / 4 ≤ n ∧ DevAt wr d D W G (fallS S bs j) ∧ Kept (Own d D W) w wr)
  case atStart => exact ⟨0, by omega, rfl, rfl, by simp [cnt], HM0.out, HK1.out⟩
  case round =>
    obtain ⟨j, hg, rfl, rfl, hcn, hdev, hkk⟩ := hrel
    have HDJ := Lib.hid hdev
    have HKJ := Lib.hid hkk
    have HG := Lib.hid hg
    have hcl := cnt_le S j
    by_cases hj : j < S.N
    · have hjz : (j : Int) < (S.N : Int) := by omega
      obtain ⟨wv, hwr, hwi⟩ := hdev.wr
      have hwk := hwi j hj
      have r1 := hwr.cell (i := j) hj
      have HCN : Hid (cnt S (j + 1) = cnt S j + (if (S.wr j).isSome then 1 else 0)) := rfl
      have HFA : Hid (fallen S bs j = match S.wr j with | none => S.dur j | some z => settleI (fate bs (cnt S j)) (S.dur j) z) := rfl
      clear hdev hwr hwi hkk hg
      generalize wv j = y at *
      cases ho : S.wr j with
      | none =>
        obtain rfl : y = .slice none 0 0 := by
          have : WImg wr G y (S.wr j) := hwk
          rw [ho] at this
          exact this
        rw [ho] at HCN HFA
        have HNX : Hid (DevAt wr d D W G (fallS S bs (j + 1))) := HDJ.out.congr rfl rfl rfl rfl (fun p _ => by
          show (if p < j + 1 then fallen S bs p else S.dur p) = (if p < j then fallen S bs p else S.dur p)
          by_cases e : p = j
          · subst e; rw [if_pos (by omega), if_neg (by omega)]; exact HFA.out
          · by_cases e2 : p < j
            · rw [if_pos (by omega), if_pos e2]
            · rw [if_neg (by omega), if_neg e2]) (fun _ _ => rfl)
        clear ho hwk
        go_wp2
        go_roundg (gk - 1)
        case measure => have := HG.out; omega
        case rel => exact ⟨j + 1, by have := HG.out; omega, by go_num, by rw [HCN.out]; rfl, by rw [HCN.out]; exact hcn, HNX.out, HKJ.out⟩
      | some z =>
        have hi : Img wr G y z := by
          have : WImg wr G y (S.wr j) := hwk
          rw [ho] at this
          exact this
        obtain ⟨b, c, rfl, h24, hm24, hsl⟩ := hi.sl
        rw [ho] at HCN HFA
        clear hwk hsl hi
        by_cases hend : cnt S j / 4 = n
        · have hendz : (((cnt S j : Nat) : Int) / 4 == (n : Int)) = true := by rw [beq_iff_eq]; omega
          obtain ⟨c1, hclr, hF, hKF⟩ := fall_end HDJ.out HKJ.out (fun q hq _ => fallen_out (by rw [HL.out]; omega) hq) HDN.out
          have HF := Lib.hid hF
          have HKF := Lib.hid hKF
          clear hend hcn hF hKF
          go_wp2
          go_ret
          exact ⟨rfl, HF.out, HKF.out⟩
        · have hendz : (((cnt S j : Nat) : Int) / 4 == (n : Int)) = false := by rw [beq_eq_false_iff_ne]; omega
          have hlt : cnt S j / 4 < n := by omega
          obtain ⟨ab, ao, rfl, hab, hac⟩ := (HS.out wr HKJ.out).at_ (by omega)
          have hcell := hac (cnt S j / 4) hlt
          have hu : U8 (bs.getD (cnt S j / 4) 0) := hz _ (getD_mem (by rw [HL.out]; exact hlt))
          have HSET := Lib.hid (settle_any HDJ.out j hj z ho (fun x hx => Nat.lt_of_lt_of_le (HLOW.out x hx) HKJ.out.size))
          have HFT : Hid (fate bs (cnt S j) = (bs.getD (cnt S j / 4) 0).toNat / 2 ^ (cnt S j % 4 * 2) % 4) := by
            show fate bs (cnt S j) = _
            unfold fate
            rw [if_pos (by rw [HL.out]; exact hlt)]
          have HFT4 := Lib.hid (fate_lt bs (cnt S j))
          clear ho hac
          generalize bs.getD (cnt S j / 4) 0 = v at *
          generalize fate bs (cnt S j) = f at *
          generalize cnt S j = t at *
          have ht0 : (0 : Int) ≤ (t : Int) / 4 := by omega
          have ht1 : (t : Int) / 4 < (n : Int) := by omega
          clear hlt hend
          have HFE : Hid (bits .and .u8 (v / 2 ^ (t % 4 * 2)) 3 = (f : Int)) := by
            show _ = _
            rw [HFT.out]
            exact two_bits hu _
          have HNX := HSET.out _ f HFE.out HFT4.out
          have HNY := Lib.hid HNX
          clear HNX HSET
          go_wp2_with (go_at_call 34; (with_reducible refine HNY.out.mono ?_); rintro e w2 ⟨rfl, hdev2, hk2⟩; have HD2 := Lib.hid hdev2; have HK2 := Lib.hid hk2; clear hdev2 hk2)
          have HN2 : Hid (DevAt w2 d D W G (fallS S bs (j + 1))) := HD2.out.congr rfl rfl rfl rfl (fun p _ => by
            show (if p < j + 1 then fallen S bs p else S.dur p) = (if p = j then settleI f (if j < j then fallen S bs j else S.dur j) z else (if p < j then fallen S bs p else S.dur p))
            by_cases e : p = j
            · subst e; rw [if_pos (by omega), if_pos rfl, if_neg (by omega)]; exact HFA.out
            · rw [if_neg e]
              by_cases e2 : p < j
              · rw [if_pos (by omega), if_pos e2]
              · rw [if_neg (by omega), if_neg e2]) (fun _ _ => rfl)
          go_roundg (gk - 1)
          case measure => have := HG.out; omega
          case rel => exact ⟨j + 1, by have := HG.out; omega, by go_num, by rw [HCN.out]; go_num, by rw [HCN.out]; show (t + 1) / 4 ≤ n; omega, HN2.out, HKJ.out.trans HK2.out⟩
    · have hjN : j = S.N := by omega
      subst hjN
      obtain ⟨c1, hclr, hF, hKF⟩ := fall_end hdev hkk (fun q hq hq' => absurd hq' (by omega)) HDN.out
      have HF := Lib.hid hF
      have HKF := Lib.hid hKF
      clear hdev hkk hg hcn hcl hF hKF
      go_wp2
      go_ret
      exact ⟨rfl, HF.out, HKF.out⟩
end
end Go.Proofs.Ytfjcbcpfhjaeeaa.DevX
