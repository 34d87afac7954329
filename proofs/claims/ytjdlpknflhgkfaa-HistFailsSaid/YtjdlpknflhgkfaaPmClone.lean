/-
  Package model: slices.Clone of truths, of bytes, of numbers; bytes.Clone; cloneRows.
-/
import Derived.Test.YtjdlpknflhgkfaaPmRow
import Derived.Lib.AppendZeros
namespace Go.Proofs.Ytjdlpknflhgkfaa.PmK
open Go.ChangeShapes Go.WideShapes Go.ChangeAt Go.RowKit
open Go.Proofs.Ytjdlpknflhgkfaa.Mem Go.Proofs.Ytjdlpknflhgkfaa.Blk Go.Proofs.Ytjdlpknflhgkfaa.Cells Go.Proofs.Ytjdlpknflhgkfaa.Orow Go.Proofs.Ytjdlpknflhgkfaa.MdM Go.Proofs.Ytjdlpknflhgkfaa.PmC Go.Proofs.Ytjdlpknflhgkfaa.PmR Go.Proofs.Ytjdlpknflhgkfaa.Stages

theorem infoclone_bools : (Try.prog.info? 4).map (fun i => (i.zero, i.size, i.bytes)) = some (some (.bool false), 1, 1) := by kernel_rfl
theorem infoclone_bytes : (Try.prog.info? 5).map (fun i => (i.zero, i.size, i.bytes)) = some (some (.int .u8 0), 1, 1) := by kernel_rfl
theorem infobytes_clone : (Try.prog.info? 5).map (fun i => (i.zero, i.size, i.bytes)) = some (some (.int .u8 0), 1, 1) := by kernel_rfl
theorem infoclone_ints : (Try.prog.info? 3).map (fun i => (i.zero, i.size, i.bytes)) = some (some (.int .i64 0), 1, 8) := by kernel_rfl
theorem inforows_bytes : (Try.prog.info? 23).map (fun i => (i.zero, i.size, i.bytes)) = some (some (.slice none 0 0), 1, 24) := by kernel_rfl
theorem inforows_ints : (Try.prog.info? 48).map (fun i => (i.zero, i.size, i.bytes)) = some (some (.slice none 0 0), 1, 24) := by kernel_rfl
section
variable {w : World} {A : Option Addr} {T : Nat → Bool}
theorem clone_bools {n : Nat} (hc : 0 < n → ∃ b off, A = some ⟨b, off, none⟩ ∧ ∀ j, j < n → w.cell? ⟨b, off + j, none⟩ = some (MdC.tcell T j)) (c : Nat) (hn : n ≤ 100000) : Calls Try.prog 62 #[.slice A n c] w fun e w' => (∃ v, e = .returned v ∧ OS w' (w.heap.size ≤ ·) v 4 1 n (MdC.tcell T)) ∧ Grow w w' := by
  have ke : ∀ w : World, (binOp .eql 35 (.slice A n c) (.slice none 0 0)).run Try.prog w = .ok (.bool A.isNone) w := fun w => Lib.run_eql_slice_nil (P := Try.prog) w 35 4 _ _ _ _ _ Try.underlying35
  cases A with
  | none =>
    have hn0 : n = 0 := by
      rcases Nat.eq_zero_or_pos n with e | e
      · exact e
      · obtain ⟨_, _, e', _⟩ := hc e
        cases e'
    subst hn0
    clear hc
    go_enter Try.func62, Try.ntmps62
    go_wp2
    go_ret
    exact ⟨⟨_, rfl, .inl ⟨rfl, rfl⟩⟩, Kept.refl _ _⟩
  | some a =>
    obtain ⟨v', w2, hr, ho, _, hg⟩ := clone_run (P := Try.prog) (w := w) (f := MdC.tcell T) 35 4 _ _ Try.underlying35 infoclone_bools rfl (by omega) a (fun hp => by
      obtain ⟨b, off, e, h⟩ := hc hp
      injection e with e
      exact ⟨b, off, e, h⟩) (fun _ _ => rfl) c hn
    have HR := Lib.hid hr
    have HO := Lib.hid ho
    have HG := Lib.hid hg
    clear hr ho hg hc
    go_enter Try.func62, Try.ntmps62
    go_wp2_with (at_builtin; refine Lib.wpList_append_run _ rfl _ _ _ _ rfl _ _ rfl rfl _ _ (HR.out _) ?_)
    go_ret
    exact ⟨⟨_, rfl, HO.out⟩, HG.out⟩
theorem clone_bytes {n : Nat} {zs : List Int} (hs : Sl w w.heap.size .u8 A n zs) (c : Nat) (hn : n ≤ 100000) : Calls Try.prog 89 #[.slice A n c] w fun e w' => (∃ v, e = .returned v ∧ OS w' (w.heap.size ≤ ·) v 5 1 n (ncl .u8 zs)) ∧ Grow w w' := by
  have hc : 0 < n → ∃ b off, A = some ⟨b, off, none⟩ ∧ ∀ j, j < n → w.cell? ⟨b, off + j, none⟩ = some (ncl .u8 zs j) := fun hp => by
    obtain ⟨b, off, e, _, h⟩ := hs.at_ hp
    exact ⟨b, off, e, h⟩
  clear hs
  have ke : ∀ w : World, (binOp .eql 23 (.slice A n c) (.slice none 0 0)).run Try.prog w = .ok (.bool A.isNone) w := fun w => Lib.run_eql_slice_nil (P := Try.prog) w 23 5 _ _ _ _ _ Try.underlying23
  cases A with
  | none =>
    have hn0 : n = 0 := by
      rcases Nat.eq_zero_or_pos n with e | e
      · exact e
      · obtain ⟨_, _, e', _⟩ := hc e
        cases e'
    subst hn0
    clear hc
    go_enter Try.func89, Try.ntmps89
    go_wp2
    go_ret
    exact ⟨⟨_, rfl, .inl ⟨rfl, rfl⟩⟩, Kept.refl _ _⟩
  | some a =>
    obtain ⟨v', w2, hr, ho, _, hg⟩ := clone_run (P := Try.prog) (w := w) (f := ncl .u8 zs) 23 5 _ _ Try.underlying23 infoclone_bytes rfl (by omega) a (fun hp => by
      obtain ⟨b, off, e, h⟩ := hc hp
      injection e with e
      exact ⟨b, off, e, h⟩) (fun _ _ => rfl) c hn
    have HR := Lib.hid hr
    have HO := Lib.hid ho
    have HG := Lib.hid hg
    clear hr ho hg hc
    go_enter Try.func89, Try.ntmps89
    go_wp2_with (at_builtin; refine Lib.wpList_append_run _ rfl _ _ _ _ rfl _ _ rfl rfl _ _ (HR.out _) ?_)
    go_ret
    exact ⟨⟨_, rfl, HO.out⟩, HG.out⟩
theorem bytes_clone {n : Nat} {zs : List Int} (hs : Sl w w.heap.size .u8 A n zs) (c : Nat) (hn : n ≤ 100000) : Calls Try.prog 94 #[.slice A n c] w fun e w' => (∃ v, e = .returned v ∧ OS w' (w.heap.size ≤ ·) v 5 1 n (ncl .u8 zs)) ∧ Grow w w' := by
  have hc : 0 < n → ∃ b off, A = some ⟨b, off, none⟩ ∧ ∀ j, j < n → w.cell? ⟨b, off + j, none⟩ = some (ncl .u8 zs j) := fun hp => by
    obtain ⟨b, off, e, _, h⟩ := hs.at_ hp
    exact ⟨b, off, e, h⟩
  clear hs
  have ke : ∀ w : World, (binOp .eql 23 (.slice A n c) (.slice none 0 0)).run Try.prog w = .ok (.bool A.isNone) w := fun w => Lib.run_eql_slice_nil (P := Try.prog) w 23 5 _ _ _ _ _ Try.underlying23
  cases A with
  | none =>
    have hn0 : n = 0 := by
      rcases Nat.eq_zero_or_pos n with e | e
      · exact e
      · obtain ⟨_, _, e', _⟩ := hc e
        cases e'
    subst hn0
    clear hc
    go_enter Try.func94, Try.ntmps94
    go_wp2
    go_ret
    exact ⟨⟨_, rfl, .inl ⟨rfl, rfl⟩⟩, Kept.refl _ _⟩
  | some a =>
    obtain ⟨v', w2, hr, ho, _, hg⟩ := clone_run (P := Try.prog) (w := w) (f := ncl .u8 zs) 23 5 _ _ Try.underlying23 infobytes_clone rfl (by omega) a (fun hp => by
      obtain ⟨b, off, e, h⟩ := hc hp
      injection e with e
      exact ⟨b, off, e, h⟩) (fun _ _ => rfl) c hn
    have HR := Lib.hid hr
    have HO := Lib.hid ho
    have HG := Lib.hid hg
    clear hr ho hg hc
    go_enter Try.func94, Try.ntmps94
    go_wp2_with (at_builtin; refine Lib.wpList_append_run _ rfl _ _ _ _ rfl _ _ rfl rfl _ _ (HR.out _) ?_)
    go_ret
    exact ⟨⟨_, rfl, HO.out⟩, HG.out⟩
theorem clone_ints {n : Nat} {zs : List Int} (hs : Sl w w.heap.size .i64 A n zs) (c : Nat) (hn : n ≤ 100000) : Calls Try.prog 90 #[.slice A n c] w fun e w' => (∃ v, e = .returned v ∧ OS w' (w.heap.size ≤ ·) v 3 1 n (ncl .i64 zs)) ∧ Grow w w' := by
  have hc : 0 < n → ∃ b off, A = some ⟨b, off, none⟩ ∧ ∀ j, j < n → w.cell? ⟨b, off + j, none⟩ = some (ncl .i64 zs j) := fun hp => by
    obtain ⟨b, off, e, _, h⟩ := hs.at_ hp
    exact ⟨b, off, e, h⟩
  clear hs
  have ke : ∀ w : World, (binOp .eql 48 (.slice A n c) (.slice none 0 0)).run Try.prog w = .ok (.bool A.isNone) w := fun w => Lib.run_eql_slice_nil (P := Try.prog) w 48 3 _ _ _ _ _ Try.underlying48
  cases A with
  | none =>
    have hn0 : n = 0 := by
      rcases Nat.eq_zero_or_pos n with e | e
      · exact e
      · obtain ⟨_, _, e', _⟩ := hc e
        cases e'
    subst hn0
    clear hc
    go_enter Try.func90, Try.ntmps90
    go_wp2
    go_ret
    exact ⟨⟨_, rfl, .inl ⟨rfl, rfl⟩⟩, Kept.refl _ _⟩
  | some a =>
    obtain ⟨v', w2, hr, ho, _, hg⟩ := clone_run (P := Try.prog) (w := w) (f := ncl .i64 zs) 48 3 _ _ Try.underlying48 infoclone_ints rfl (by omega) a (fun hp => by
      obtain ⟨b, off, e, h⟩ := hc hp
      injection e with e
      exact ⟨b, off, e, h⟩) (fun _ _ => rfl) c hn
    have HR := Lib.hid hr
    have HO := Lib.hid ho
    have HG := Lib.hid hg
    clear hr ho hg hc
    go_enter Try.func90, Try.ntmps90
    go_wp2_with (at_builtin; refine Lib.wpList_append_run _ rfl _ _ _ _ rfl _ _ rfl rfl _ _ (HR.out _) ?_)
    go_ret
    exact ⟨⟨_, rfl, HO.out⟩, HG.out⟩
set_option maxHeartbeats 1000000 in
theorem rows_bytes {n : Nat} {L : Nat → List Int} (hl : Lists w .u8 A n L) (c : Nat) (hn : n ≤ 60) (hL : ∀ i, i < n → (L i).length ≤ 40) : Calls Try.prog 63 #[.slice A n c] w fun e w' => (∃ v V, e = .returned v ∧ Rs w' (w.heap.size ≤ ·) v 23 5 .u8 n V L) ∧ Grow w w' := by
  have HL := Lib.hid hl
  have HLL := Lib.hid hL
  have hnz : (n : Int) ≤ 60 := by omega
  have HN := Lib.hid hn
  obtain ⟨B, hB⟩ : ∃ B, B = w.heap.size := ⟨_, rfl⟩
  have HB := Lib.hid hB
  rw [← hB]
  obtain ⟨b, off, hA⟩ : ∃ b off, 0 < n → A = some ⟨b, off, none⟩ ∧ ∀ i, i < n → ∃ A' c, w.cell? ⟨b, off + i, none⟩ = some (.slice A' (L i).length c) ∧ Sl w w.heap.size .u8 A' (L i).length (L i) := by
    by_cases h0 : 0 < n
    · obtain ⟨b, off, h⟩ := hl h0
      exact ⟨b, off, fun _ => h⟩
    · exact ⟨0, 0, fun h => absurd h h0⟩
  have HA := Lib.hid hA
  clear hl hL hn hA hB
  go_enter Try.func63, Try.ntmps63
  go_wp2
  go_loopg [3, 8] n (fun gx v i wr => ∃ (j : Nat) (V : Nat → Value), j + gx = n ∧ i = .int .i64 (j : Int) ∧ Rs wr (B ≤ ·) v 23 5 .u8 j V L ∧ Grow w wr)
  case atStart => exact ⟨0, fun _ => .nilIface, by omega, rfl, rs_nil _ _ _ _ _ _ _, Kept.refl _ _⟩
  case round =>
    obtain ⟨j, V, hg, rfl, hrs, hgr⟩ := hrel
    have HG := Lib.hid hg
    have HRS := Lib.hid hrs
    have HGR := Lib.hid hgr
    clear hg hrs
    by_cases hj : j < n
    · have hjz : (j : Int) < (n : Int) := by omega
      have HJ := Lib.hid hj
      obtain ⟨rfl, hrow⟩ := HA.out (by omega)
      obtain ⟨A', c', hcell, hsl⟩ := hrow j hj
      have r1 := hgr.cellN hcell id
      have HC := Lib.hid (clone_bytes (sl_grow hsl hgr) c' (by have := HLL.out j hj; omega))
      clear hj hrow hcell hsl hgr
      generalize hlen : (L j).length = m at *
      have HLEN := Lib.hid hlen
      clear hlen
      go_wp2_with (first
        | (at_builtin; refine Lib.wpList_append_run _ rfl _ _ _ _ rfl _ _ rfl rfl _ _ (HR4.out _) ?_)
        | (go_at_call 89; (with_reducible refine HC.out.mono ?_); rintro e w2 ⟨⟨x, rfl, hx⟩, hg2⟩; obtain ⟨Ax, cx, rfl⟩ := os_form hx; have HX := Lib.hid hx; have HG2 := Lib.hid hg2; have HG3 : Hid (Grow w2 (w2.alloc (.cells #[.slice Ax m cx] 23))) := (Kept.refl _ w2).alloc _; have HRB := Lib.hid ((HRS.out.grow hg2).grow HG3.out); obtain ⟨i0, hi0, hz0, hz1, hz2⟩ := info_parts inforows_bytes; obtain ⟨g4, cap4, w4, hr4, ho4, hk4, hb4⟩ := append_or (P := Try.prog) 36 0 i0 _ 24 Try.underlying36 hi0 hz0 hz1 hz2 rfl (by omega) HRB.out.out (by have := HJ.out; have := HN.out; omega) (by omega) w2.heap.size 1 (u := fun _ => .slice Ax m cx) (fun q hq => by obtain rfl : q = 0 := (by omega); exact cell_new1 w2 (.slice Ax m cx) 23) (fun q hq => os_one HX.out); have HR4 : Hid (∀ ty, (Builtin.append_ #[36, 36] ty #[_, .slice (some ⟨w2.heap.size, 0, none⟩) 1 1]).run Try.prog (w2.alloc (.cells #[.slice Ax m cx] 23)) = .ok (.slice (some ⟨g4, 0, none⟩) (j + 1) cap4) w4) := fun ty => hr4; have HO4 := Lib.hid ho4; have HK4 := Lib.hid hk4; have HB4 := Lib.hid hb4; clear hx hg2 hr4 ho4 hk4 hb4))
      have HPU := Lib.hid (HRB.out.push (x := .slice Ax m cx) (by rw [HLEN.out]; exact os_mono (os_grow HX.out HG3.out) fun k _ (y : _ ≤ k) => by have := HB.out; have := HGR.out.size; show B ≤ k; omega) (fun i hi r hr e => by
        have h1 := (os_in (HRS.out.row i hi) hr).2
        have h2 : _ ≤ r := (os_in HX.out e).1
        omega) (fun r hr e => by
        have h1 := (os_in HRS.out.out e).2
        have h2 : _ ≤ r := (os_in HX.out hr).1
        omega) HO4.out HK4.out HB4.out (fun k hk => by have := HB.out; have := HGR.out.size; have := HG2.out.size; have := HG3.out.size; show B ≤ k; omega))
      have HGE : Hid (Grow w w4) := ((HGR.out.trans HG2.out).trans HG3.out).then HK4.out fun k hk e => by
        have h1 : B ≤ k := (os_in HRB.out.out e).1
        have := HB.out
        omega
      go_roundg (gk - 1)
      case measure => have := HG.out; have := HJ.out; omega
      case rel => exact ⟨j + 1, _, by have := HG.out; have := HJ.out; omega, by go_num, HPU.out, HGE.out⟩
    · obtain rfl : j = n := by have := HG.out; omega
      clear hj
      go_wp2
      go_ret
      exact ⟨⟨_, V, rfl, HRS.out⟩, HGR.out⟩
set_option maxHeartbeats 1000000 in
theorem rows_ints {n : Nat} {L : Nat → List Int} (hl : Lists w .i64 A n L) (c : Nat) (hn : n ≤ 60) (hL : ∀ i, i < n → (L i).length ≤ 40) : Calls Try.prog 64 #[.slice A n c] w fun e w' => (∃ v V, e = .returned v ∧ Rs w' (w.heap.size ≤ ·) v 48 3 .i64 n V L) ∧ Grow w w' := by
  have HL := Lib.hid hl
  have HLL := Lib.hid hL
  have hnz : (n : Int) ≤ 60 := by omega
  have HN := Lib.hid hn
  obtain ⟨B, hB⟩ : ∃ B, B = w.heap.size := ⟨_, rfl⟩
  have HB := Lib.hid hB
  rw [← hB]
  obtain ⟨b, off, hA⟩ : ∃ b off, 0 < n → A = some ⟨b, off, none⟩ ∧ ∀ i, i < n → ∃ A' c, w.cell? ⟨b, off + i, none⟩ = some (.slice A' (L i).length c) ∧ Sl w w.heap.size .i64 A' (L i).length (L i) := by
    by_cases h0 : 0 < n
    · obtain ⟨b, off, h⟩ := hl h0
      exact ⟨b, off, fun _ => h⟩
    · exact ⟨0, 0, fun h => absurd h h0⟩
  have HA := Lib.hid hA
  clear hl hL hn hA hB
  go_enter Try.func64, Try.ntmps64
  go_wp2
  go_loopg [3, 8] n (fun gx v i wr => ∃ (j : Nat) (V : Nat → Value), j + gx = n ∧ i = .int .i64 (j : Int) ∧ Rs wr (B ≤ ·) v 48 3 .i64 j V L ∧ Grow w wr)
  case atStart => exact ⟨0, fun _ => .nilIface, by omega, rfl, rs_nil _ _ _ _ _ _ _, Kept.refl _ _⟩
  case round =>
    obtain ⟨j, V, hg, rfl, hrs, hgr⟩ := hrel
    have HG := Lib.hid hg
    have HRS := Lib.hid hrs
    have HGR := Lib.hid hgr
    clear hg hrs
    by_cases hj : j < n
    · have hjz : (j : Int) < (n : Int) := by omega
      have HJ := Lib.hid hj
      obtain ⟨rfl, hrow⟩ := HA.out (by omega)
      obtain ⟨A', c', hcell, hsl⟩ := hrow j hj
      have r1 := hgr.cellN hcell id
      have HC := Lib.hid (clone_ints (sl_grow hsl hgr) c' (by have := HLL.out j hj; omega))
      clear hj hrow hcell hsl hgr
      generalize hlen : (L j).length = m at *
      have HLEN := Lib.hid hlen
      clear hlen
      go_wp2_with (first
        | (at_builtin; refine Lib.wpList_append_run _ rfl _ _ _ _ rfl _ _ rfl rfl _ _ (HR4.out _) ?_)
        | (go_at_call 90; (with_reducible refine HC.out.mono ?_); rintro e w2 ⟨⟨x, rfl, hx⟩, hg2⟩; obtain ⟨Ax, cx, rfl⟩ := os_form hx; have HX := Lib.hid hx; have HG2 := Lib.hid hg2; have HG3 : Hid (Grow w2 (w2.alloc (.cells #[.slice Ax m cx] 48))) := (Kept.refl _ w2).alloc _; have HRB := Lib.hid ((HRS.out.grow hg2).grow HG3.out); obtain ⟨i0, hi0, hz0, hz1, hz2⟩ := info_parts inforows_ints; obtain ⟨g4, cap4, w4, hr4, ho4, hk4, hb4⟩ := append_or (P := Try.prog) 37 0 i0 _ 24 Try.underlying37 hi0 hz0 hz1 hz2 rfl (by omega) HRB.out.out (by have := HJ.out; have := HN.out; omega) (by omega) w2.heap.size 1 (u := fun _ => .slice Ax m cx) (fun q hq => by obtain rfl : q = 0 := (by omega); exact cell_new1 w2 (.slice Ax m cx) 48) (fun q hq => os_one HX.out); have HR4 : Hid (∀ ty, (Builtin.append_ #[37, 37] ty #[_, .slice (some ⟨w2.heap.size, 0, none⟩) 1 1]).run Try.prog (w2.alloc (.cells #[.slice Ax m cx] 48)) = .ok (.slice (some ⟨g4, 0, none⟩) (j + 1) cap4) w4) := fun ty => hr4; have HO4 := Lib.hid ho4; have HK4 := Lib.hid hk4; have HB4 := Lib.hid hb4; clear hx hg2 hr4 ho4 hk4 hb4))
      have HPU := Lib.hid (HRB.out.push (x := .slice Ax m cx) (by rw [HLEN.out]; exact os_mono (os_grow HX.out HG3.out) fun k _ (y : _ ≤ k) => by have := HB.out; have := HGR.out.size; show B ≤ k; omega) (fun i hi r hr e => by
        have h1 := (os_in (HRS.out.row i hi) hr).2
        have h2 : _ ≤ r := (os_in HX.out e).1
        omega) (fun r hr e => by
        have h1 := (os_in HRS.out.out e).2
        have h2 : _ ≤ r := (os_in HX.out hr).1
        omega) HO4.out HK4.out HB4.out (fun k hk => by have := HB.out; have := HGR.out.size; have := HG2.out.size; have := HG3.out.size; show B ≤ k; omega))
      have HGE : Hid (Grow w w4) := ((HGR.out.trans HG2.out).trans HG3.out).then HK4.out fun k hk e => by
        have h1 : B ≤ k := (os_in HRB.out.out e).1
        have := HB.out
        omega
      go_roundg (gk - 1)
      case measure => have := HG.out; have := HJ.out; omega
      case rel => exact ⟨j + 1, _, by have := HG.out; have := HJ.out; omega, by go_num, HPU.out, HGE.out⟩
    · obtain rfl : j = n := by have := HG.out; omega
      clear hj
      go_wp2
      go_ret
      exact ⟨⟨_, V, rfl, HRS.out⟩, HGR.out⟩
end
end Go.Proofs.Ytjdlpknflhgkfaa.PmK
