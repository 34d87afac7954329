/-
  The helpers of the statements of layer 3: an image of one byte (bytes), the few answers asked for first (told).
-/
import Derived.Test.YtfjcbcpfhjaeeaaDevNew
namespace Go.Proofs.Ytfjcbcpfhjaeeaa.Told3
open Go.ChangeShapes Go.WideShapes Go.ChangeAt Go.RowKit
open Go.Proofs.Ytfjcbcpfhjaeeaa.SumM Go.Proofs.Ytfjcbcpfhjaeeaa.Mem Go.Proofs.Ytfjcbcpfhjaeeaa.Blk Go.Proofs.Ytfjcbcpfhjaeeaa.PageM Go.Proofs.Ytfjcbcpfhjaeeaa.Str Go.Proofs.Ytfjcbcpfhjaeeaa.Dev Go.Proofs.Ytfjcbcpfhjaeeaa.LibC Go.Proofs.Ytfjcbcpfhjaeeaa.DevC Go.Proofs.Ytfjcbcpfhjaeeaa.DevM Go.Proofs.Ytfjcbcpfhjaeeaa.DevY Go.Proofs.Ytfjcbcpfhjaeeaa.DevK Go.Proofs.Ytfjcbcpfhjaeeaa.DevX Go.Proofs.Ytfjcbcpfhjaeeaa.DevN Go.Proofs.Ytfjcbcpfhjaeeaa.Stages

/-- An image of one byte. -/
def ofB (c : Int) : List Int := List.replicate 24 c
theorem ofB_len (c : Int) : (ofB c).length = 24 := by simp [ofB]
theorem ofB_bytes {c : Int} (hc : U8 c) : Bytes (ofB c) := fun x hx => by rw [List.eq_of_mem_replicate hx]; exact hc
theorem ofB_at (c : Int) {j : Nat} (h : j < 24) : (ofB c).getD j 0 = c := by
  unfold ofB
  rw [List.getD_eq_getElem?_getD, List.getElem?_replicate, if_pos h]; rfl
theorem ofB_zero : ofB 0 = zeros 24 := rfl
def mixB (c : Int) (j : Nat) : List Int := List.replicate j c ++ List.replicate (24 - j) 0
theorem mixB_len (c : Int) (j : Nat) (h : j ≤ 24) : (mixB c j).length = 24 := by simp [mixB]; omega
theorem mixB_set (c : Int) (j : Nat) (h : j < 24) : (mixB c j).set j c = mixB c (j + 1) := by
  unfold mixB
  rw [List.set_append_right _ _ (by simp), List.length_replicate, Nat.sub_self, show 24 - j = (24 - (j + 1)) + 1 by omega, List.replicate_succ, List.set_cons_zero, List.replicate_succ', List.append_assoc]
  rfl

set_option maxHeartbeats 1000000 in
theorem bytes_any (c : Int) (w : World) : Calls Try.prog 14 #[.int .u8 c] w (FreshBytes w 24 (ofB c)) := by
  have hmk := fun w => run_make_row' (P := Try.prog) 28 5 (.int .u8 0) 1 Try.underlying28 infoU8 rfl .i64 .i64 24 (by omega) (by omega) w
  simp only [Int.cast_ofNat_Int] at hmk
  go_enter Try.func14, Try.ntmps14
  go_wp2
  go_loopg [4] 24 (fun g i wr => ∃ j : Nat, j + g = 24 ∧ i = .int .i64 (j : Int) ∧ NBlk wr w.heap.size 5 .u8 (mixB c j) ∧ Grow w wr)
  case atStart => exact ⟨0, rfl, rfl, NBlk.made w _ _ 24, (Kept.refl _ _).alloc _⟩
  case round =>
    obtain ⟨j, hg, rfl, hb, hgr⟩ := hrel
    have HB := Lib.hid hb
    have HGR := Lib.hid hgr
    by_cases hj : j < 24
    · have hcl := NBlk.at_ hb (j := j) (by rw [mixB_len c j (by omega)]; omega)
      have hf := Blk.frozen hb j
      have HG := Lib.hid hg
      clear hb hgr hg
      go_wp2
      go_roundg (gk - 1)
      case measure => have := HG.out; omega
      case rel =>
        refine ⟨j + 1, by have := HG.out; omega, by go_num, ?_, HGR.out.setCell (fun h => absurd h (by show ¬ w.heap.size < _; omega)) _⟩
        have := NBlk.set HB.out j c
        rwa [mixB_set c j hj] at this
    · obtain rfl : j = 24 := by omega
      clear hb hgr hg
      go_wp2
      go_ret
      exact ⟨w.heap.size, rfl, Nat.le_refl _, HB.out, HGR.out⟩

section
variable {w : World} {d D W B : Nat} {G : Nat → Prop} {S : Dv}
theorem back (h : DevAt w d D W (fun k => G k ∨ B ≤ k) S) (ho : ∀ k, Own d D W k → G k) : DevAt w d D W G S := h.turn (fun _ _ hg => .inl hg) ho
theorem newG_low {w0 : World} (h : DevAt w d D W (newG w0 d D W) S) (hz : w0.heap.size ≤ w.heap.size) : ∀ k, newG w0 d D W k → k < w.heap.size := by
  intro k hk
  obtain ⟨h1, h2, h3⟩ := h.lt
  rcases hk with hk | rfl | rfl | rfl <;> omega
theorem own_new {w0 : World} : ∀ k, Own d D W k → newG w0 d D W k := fun _ h => .inr h
end

theorem new_int (P : Int) (N : Nat) (w : World) (hP : P = (N : Int)) (h1 : 1 ≤ N) (h48 : N ≤ 48) : Calls Try.prog 8 #[.int .i64 P] w (NewPost w N) := hP ▸ new_good N h1 h48

theorem read_int {w : World} {d D W : Nat} {G : Nat → Prop} {S : Dv} (P : Int) (h : DevAt w d D W G S) (k : Nat) (hP : P = (k : Int)) (hk : k < S.N) (hn : (S.n : Int) < 9223372036854775807) (hb : (S.bad : Int) < 9223372036854775807) (hc : accC S = 0) :
    Calls Try.prog 11 #[.pointer (some ⟨d, 0, none⟩), .int .i64 P] w (ReadPost d D W G w 0 (cur S k) (accS S)) := hP ▸ read_good h k hk hn hb hc
theorem write_int {w : World} {d D W : Nat} {G : Nat → Prop} {S : Dv} (P : Int) (h : DevAt w d D W G S) (k : Nat) (hP : P = (k : Int)) (hk : k < S.N) (A : Option Addr) (cap B : Nat) (zs : List Int) (hs : ∀ w', Kept (Own d D W) w w' → Sl w' B .u8 A 24 zs) (hz : Bytes zs) (low : ∀ x, G x → x < w.heap.size)
    (hn : (S.n : Int) < 9223372036854775807) (hb : (S.bad : Int) < 9223372036854775807) (hc : accC S = 0) :
    Calls Try.prog 13 #[.pointer (some ⟨d, 0, none⟩), .int .i64 P, .slice A 24 cap] w (DevPost d D W G w (.int .i64 0) (putS (accS S) k zs)) := hP ▸ write_good h k hk A cap B zs hs hz low hn hb hc

/-- The device that told asks: what was written to page 1 waits, or is durable. -/
def tS (z : List Int) (n bad : Nat) : Dv := { N := 2, dur := fun _ => zeros 24, wr := fun q => if q = 1 then some z else none, n := n, bad := bad, down := false }
def uS (z : List Int) (n : Nat) (down : Bool) : Dv := { N := 2, dur := fun q => if q = 1 then z else zeros 24, wr := fun _ => none, n := n, bad := 0, down := down }

set_option maxHeartbeats 2000000 in
theorem told_any (w : World) : Calls Try.prog 10 #[] w fun e w' => e = .returned (.bool true) ∧ Grow w w' := by
  have hmk := fun w => run_make_row' (P := Try.prog) 28 5 (.int .u8 0) 1 Try.underlying28 infoU8 rfl .i64 .i64 24 (by omega) (by omega) w
  simp only [Int.cast_ofNat_Int] at hmk
  go_enter Try.func10, Try.ntmps10
  go_upto_region 3 with (go_at_call 8; (with_reducible refine (new_int 2 2 _ (by omega) (by omega) (by omega)).mono ?_); rintro e w1 ⟨d, D, W, rfl, hdev, hold, hgr⟩; have HD1 := Lib.hid hdev; have HOLD := Lib.hid hold; have HG1 := Lib.hid hgr; clear hdev hold hgr)
  have hb := NBlk.made w1 5 .u8 24
  have hga : Grow w1 (w1.alloc (.cells (madeCells #[Value.int .u8 0] 24) 5)) := (Kept.refl _ _).alloc _
  generalize w1.alloc (.cells (madeCells #[Value.int .u8 0] 24) 5) = wA at hb hga ⊢
  have hc := NBlk.at_ hb (j := 0) (by simp)
  have hf := Blk.frozen hb 0
  have HB2 : Hid (NBlk (wA.setCell ⟨w1.heap.size, 0, none⟩ (.int .u8 7)) w1.heap.size 5 .u8 ((zeros 24).set 0 7)) := NBlk.set hb 0 7
  have HG2 : Hid (Grow w1 (wA.setCell ⟨w1.heap.size, 0, none⟩ (.int .u8 7))) := hga.setCell (fun h => absurd h (by show ¬ w1.heap.size < _; omega)) _
  clear hb hga
  go_upto_region 6 with (fail)
  generalize wA.setCell ⟨w1.heap.size, 0, none⟩ (.int .u8 7) = w2 at HB2 HG2 ⊢
  clear hc hf hmk
  have HD2 : Hid (DevAt w2 d D W (newG w d D W) (newS 2)) := HD1.out.grow HG2.out
  have hlow := newG_low HD1.out HG1.out.size
  have HLOW := Lib.hid hlow
  have hbo : ¬ Own d D W w1.heap.size := fun h => by have := hlow _ (.inr h); omega
  have HBO := Lib.hid hbo
  clear hlow hbo
  have C6 := Lib.hid (read_int 0 HD2.out 0 (by omega) (by decide) (by decide) (by decide) rfl)
  go_upto_region 7 with (go_at_call 11; (with_reducible refine C6.out.mono ?_); rintro e w3 ⟨A3, n3, c3, rfl, _, hz3, hdev, hk⟩; obtain ⟨rfl, g3, rfl, _, _⟩ := hz3 rfl; have HD3 := Lib.hid (back hdev own_new); have HK3 := Lib.hid hk; clear hdev hk hz3)
  have HB3 : Hid (NBlk w3 w1.heap.size 5 .u8 ((zeros 24).set 0 7)) := Blk.kept HB2.out HK3.out HBO.out
  have hz7 : Bytes ((zeros 24).set 0 7) := fun c hc => by
    rcases List.mem_or_eq_of_mem_set hc with h | h
    · exact zeros_bytes 24 c h
    · subst h; exact ⟨by omega, by omega⟩
  have C7 := Lib.hid (write_int 1 HD3.out 1 (by omega) (by decide) (some ⟨w1.heap.size, 0, none⟩) 24 (w1.heap.size + 1) ((zeros 24).set 0 7) (fun w' hk => Sl.of_blk0 (Blk.kept HB3.out hk HBO.out) (by simp [zeros_len]) (by omega)) hz7
    (fun x hx => Nat.lt_of_lt_of_le (HLOW.out x hx) (Nat.le_trans HG2.out.size HK3.out.size)) (by decide) (by decide) rfl)
  have hz0 : ((zeros 24).set 0 7).getD 0 0 = 7 := rfl
  have HZ0 := Lib.hid hz0
  clear hz7 C6 hz0
  generalize (zeros 24).set 0 7 = z at *
  go_upto_region 8 with (go_at_call 13; (with_reducible refine C7.out.mono ?_); rintro e w4 ⟨rfl, hdev, hk⟩; have HD4 : Hid (DevAt w4 d D W (newG w d D W) (tS z 2 0)) := hdev; have HK4 := Lib.hid hk; clear hdev hk)
  clear C7
  have C8 := Lib.hid (waits_any HD4.out)
  rw [show waitL (tS z 2 0) (tS z 2 0).N = [1] from rfl] at C8
  go_upto_region 9 with (go_at_call 25; (with_reducible refine C8.out.mono ?_); rintro e w5 ⟨A5, n5, c5, rfl, hsl, hnew, hgr⟩; obtain rfl : n5 = 1 := hsl.len.symm; obtain ⟨b5, o5, rfl, hb5, hc5⟩ := hsl.at_ (by omega); have hn5 := hnew _ rfl; have HC5 := Lib.hid (hc5 0 (by omega)); have HN5 := Lib.hid hn5; have HG5 := Lib.hid hgr; clear hsl hgr hnew hc5 hn5)
  clear C8
  have HD5 : Hid (DevAt w5 d D W (newG w d D W) (tS z 2 0)) := HD4.out.grow HG5.out
  have C9 := Lib.hid (fail_any HD5.out 1)
  rw [show failB 1 = true from rfl] at C9
  go_upto_region 10 with (go_at_call 18; (with_reducible refine C9.out.mono ?_); rintro e w6 ⟨rfl, hdev, hk⟩; have HD6 : Hid (DevAt w6 d D W (newG w d D W) (tS z 2 1)) := hdev; have HK6 := Lib.hid hk; clear hdev hk)
  clear C9
  have C10 := Lib.hid (sync_bad HD6.out (by show ((2 : Nat) : Int) < 9223372036854775807; decide) (by show ((1 : Nat) : Int) < 9223372036854775807; decide) (by show (9 : Int) ≠ 0; decide))
  rw [show accC (tS z 2 1) = 9 from rfl] at C10
  go_upto_region 11 with (go_at_call 16; (with_reducible refine C10.out.mono ?_); rintro e w7 ⟨rfl, hdev, hk⟩; have HD7 : Hid (DevAt w7 d D W (newG w d D W) (tS z 3 0)) := hdev; have HK7 := Lib.hid hk; clear hdev hk)
  clear C10
  have C11 := Lib.hid (sync_good HD7.out (by show ((3 : Nat) : Int) < 9223372036854775807; decide) (by show ((0 : Nat) : Int) < 9223372036854775807; decide) rfl)
  go_upto_region 12 with (go_at_call 16; (with_reducible refine C11.out.mono ?_); rintro e w8 ⟨rfl, hdev, hk⟩; have HD8 : Hid (DevAt w8 d D W (newG w d D W) (uS z 4 false)) := hdev.congr rfl rfl rfl rfl (fun p _ => by show (if p = 1 then z else zeros 24) = ((if p = 1 then some z else none : Option (List Int)).getD (zeros 24)); split <;> rfl) (fun _ _ => rfl); have HK8 := Lib.hid hk; clear hdev hk)
  clear C11
  have C12 := Lib.hid (crash_good HD8.out none 0 0 0 [] rfl (fun w' _ => Sl.nil _ _ _ _) (fun c hc => by cases hc) (by unfold maxLen; omega) (fun x hx => newG_low HD8.out (Nat.le_trans HG1.out.size (Nat.le_trans HG2.out.size (Nat.le_trans HK3.out.size (Nat.le_trans HK4.out.size (Nat.le_trans HG5.out.size (Nat.le_trans HK6.out.size (Nat.le_trans HK7.out.size HK8.out.size))))))) x hx))
  go_upto_region 13 with (go_at_call 20; (with_reducible refine C12.out.mono ?_); rintro e w9 ⟨rfl, hdev, hk⟩; have HD9 : Hid (DevAt w9 d D W (newG w d D W) (uS z 4 true)) := hdev; have HK9 := Lib.hid hk; clear hdev hk)
  clear C12
  have C13 := Lib.hid (sync_bad HD9.out (by show ((4 : Nat) : Int) < 9223372036854775807; decide) (by show ((0 : Nat) : Int) < 9223372036854775807; decide) (by show (12 : Int) ≠ 0; decide))
  rw [show accC (uS z 4 true) = 12 from rfl] at C13
  go_upto_region 14 with (go_at_call 16; (with_reducible refine C13.out.mono ?_); rintro e wB ⟨rfl, hdev, hk⟩; have HDB : Hid (DevAt wB d D W (newG w d D W) (uS z 4 true)) := hdev; have HKB := Lib.hid hk; clear hdev hk)
  clear C13
  have hdu : Calls Try.prog 23 #[.pointer (some ⟨d, 0, none⟩)] wB (DurOf wB 2 fun q => if q = 1 then z else zeros 24) := durable_any HDB.out
  have C14 := Lib.hid hdu
  clear hdu
  go_upto_region 15 with (go_at_call 23; (with_reducible refine C14.out.mono ?_); rintro e wC ⟨gC, cC, fC, rfl, hgC, hrow, hfr, hgr⟩; have HRC := Lib.hid hrow; have HFC := Lib.hid hfr; have HGC := Lib.hid hgr; clear hgC hrow hfr hgr)
  clear C14
  have HDC : Hid (DevAt wC d D W (newG w d D W) (uS z 4 true)) := HDB.out.grow HGC.out
  have hb5o : ¬ Own d D W b5 := fun h => by
    have h1 := HLOW.out _ (.inr h)
    have h2 := HN5.out
    have h3 := HG2.out.size
    have h4 := HK3.out.size
    have h5 := HK4.out.size
    have h6 : w4.heap.size ≤ b5 := h2
    omega
  have q1 : wC.cell? ⟨b5, o5, none⟩ = some (.int .i64 1) := HGC.out.cellN (HKB.out.cellN (HK9.out.cellN (HK8.out.cellN (HK7.out.cellN (HK6.out.cellN HC5.out hb5o) hb5o) hb5o) hb5o) hb5o) id
  have q2 := HRC.out.cell (i := 1) (by omega)
  obtain ⟨bF, cF, hF, hF1, hF2, _, hrowF, _⟩ := HFC.out 1 (by omega)
  have q3 := hrowF.cell (i := 0) (by omega)
  rw [hF] at q2
  simp only [if_true, HZ0.out] at q3
  have CX := Lib.hid (crash_down HDC.out none 0 0 rfl)
  have CA := Lib.hid (accesses_any HDC.out)
  rw [show ((uS z 4 true).n : Int) = 4 from rfl] at CA
  have HFIN : Hid (Grow w wC) := by
    have hO : ∀ k, k < w.heap.size → Own d D W k → False := fun k hk h => by
      have := HOLD.out
      rcases h with rfl | rfl | rfl <;> omega
    have hz := HG1.out.size
    refine ((((((((((HG1.out.trans HG2.out).then HK3.out hO).then HK4.out hO).trans HG5.out).then HK6.out hO).then HK7.out hO).then HK8.out hO).then HK9.out hO).then HKB.out hO).trans HGC.out)
  clear hF hrowF hb5o hb5
  go_wp2_with (first
    | (go_at_call 20; (with_reducible refine CX.out.mono ?_); rintro e w' ⟨rfl, rfl⟩)
    | (go_at_call 27; (with_reducible refine CA.out.mono ?_); rintro e w' ⟨rfl, rfl⟩)
    | (go_at_call 8; (with_reducible refine (new_bad 0 (by omega)).mono ?_); rintro e w' ⟨rfl, rfl⟩)
    | (go_at_call 16; (with_reducible refine (sync_nil _).mono ?_); rintro e w' ⟨rfl, rfl⟩)
    | (go_at_call 18; (with_reducible refine (fail_nil 1 _).mono ?_); rintro e w' ⟨rfl, rfl⟩))
  go_ret
  exact ⟨rfl, HFIN.out⟩
end Go.Proofs.Ytfjcbcpfhjaeeaa.Told3
