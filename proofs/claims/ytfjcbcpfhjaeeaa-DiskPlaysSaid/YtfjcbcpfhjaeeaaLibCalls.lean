/-
  What the library's functions that package disk calls compute: bytes.Clone, slices.Clone, slices.Grow, slices.Concat.
-/
import Derived.Test.YtfjcbcpfhjaeeaaDev
import Derived.Test.YtfjcbcpfhjaeeaaStr
import Derived.Lib.AppendZeros
namespace Go.Proofs.Ytfjcbcpfhjaeeaa.LibC
open Go.ChangeShapes Go.WideShapes Go.ChangeAt Go.RowKit
open Go.Proofs.Ytfjcbcpfhjaeeaa.SumM Go.Proofs.Ytfjcbcpfhjaeeaa.Mem Go.Proofs.Ytfjcbcpfhjaeeaa.Blk Go.Proofs.Ytfjcbcpfhjaeeaa.PageM Go.Proofs.Ytfjcbcpfhjaeeaa.Str Go.Proofs.Ytfjcbcpfhjaeeaa.Dev

theorem infoSl : (Try.prog.info? 28).map (fun i => (i.zero, i.size, i.bytes)) = some (some (.slice none 0 0), 1, 24) := by kernel_rfl

/-- A row of bytes in memory of its own. -/
def CloneOf (w : World) (n : Nat) (zs : List Int) (e : Ending) (w' : World) : Prop :=
  ∃ g c, e = .returned (.slice (some ⟨g, 0, none⟩) n c) ∧ w.heap.size ≤ g ∧ NRow w' g n .u8 zs ∧ n ≤ c ∧ c ≤ maxLen ∧ Grow w w'

set_option maxHeartbeats 1000000 in
theorem clone_any (A : Option Addr) (n cap B : Nat) (zs : List Int) (w : World) (h0 : 0 < n) (hn : n ≤ 1000000) (h : Sl w B .u8 A n zs) :
    Calls Try.prog 32 #[.slice A n cap] w (CloneOf w n zs) := by
  obtain ⟨i0, hi, hz0, hz1, hz2⟩ := info_parts infoU8
  obtain ⟨b, off, rfl, hb, hc⟩ := h.at_ h0
  have q22 : ∀ (w : World) (a : Option Addr) (n c n' c' : Nat), (binOp .eql 28 (.slice a n c) (.slice none n' c')).run Try.prog w = .ok (.bool a.isNone) w := fun w a n c n' c' => Lib.run_eql_slice_nil w _ _ a n c n' c' Try.underlying28
  have hl := h.len
  have HC := Lib.hid hc
  have HL := Lib.hid hl
  clear hc hl h
  go_enter Try.func32, Try.ntmps32
  go_wp2_with (at_builtin; refine wpList_append_lies _ rfl _ _ 28 rfl w.heap.size 5 i0 (.int .u8 0) 1 1 Try.underlying28 hi hz0 hz1 hz2 rfl (by decide) _ _ _ rfl (World.ownsRow_made w #[] 0 (Nat.le_refl _) (Nat.zero_le _) rfl) ⟨b, off, none⟩ n cap (zs.map (Value.int .u8)) rfl ?qc1 ?qc2 ?qc3 h0 ?qc4 ?qc5 ?qc6 _ rfl ?_)
  case qc1 => simp [HL.out]
  case qc2 =>
    intro j u hj
    have hl := HL.out
    have hjn : j < n := by
      have := (List.getElem?_eq_some_iff.1 hj).1
      simp at this
      omega
    have e : (⟨b, off, none⟩ : Addr).add j = ⟨b, off + j, none⟩ := by unfold Addr.add; split <;> simp_all
    rw [e]
    refine Lib.cell?_alloc_some _ ?_
    rw [HC.out j hjn, ← hj]
    simp [List.getD, List.getElem?_eq_getElem (show j < zs.length by omega)]
  case qc3 => intro u hu; obtain ⟨x, _, rfl⟩ := List.mem_map.1 hu; rfl
  case qc4 => unfold maxLen; omega
  case qc5 => omega
  case qc6 => simp
  intro g c w1 hown hgrow hor hlt
  have hown' := Lib.hid hown
  have hgr' : Hid (Grow w w1) := ((Kept.refl _ w).alloc _).grown hgrow (by intro k hk; simp [Value.ownBlock] at hk; omega)
  clear hown hgrow hor hlt
  go_wp2
  go_ret
  have hz := HL.out
  have hown := hown'.out
  obtain ⟨g', e1, h1, h2, h3, h4⟩ := Row.of_own (f := fun i => .int .u8 (zs.getD i 0)) hown h0 (fun i hi => by simp [List.getD, List.getElem?_eq_getElem (show i < zs.length by omega)])
  injection e1 with e1
  injection e1 with e1
  subst e1
  exact ⟨g, c, rfl, h1, h2, h3, h4, hgr'.out⟩

/-- A row of slices in memory of its own. -/
def ListOf (w : World) (n : Nat) (f : Nat → Value) (e : Ending) (w' : World) : Prop :=
  ∃ g c, e = .returned (.slice (some ⟨g, 0, none⟩) n c) ∧ w.heap.size ≤ g ∧ Row w' g n f ∧ Grow w w'

set_option maxHeartbeats 1000000 in
theorem cloneL_any (D n cap : Nat) (f : Nat → Value) (w : World) (h0 : 0 < n) (hn : n ≤ 1000000) (h : Row w D n f) (h1 : ∀ i, i < n → (f i).oneCell' = true) :
    Calls Try.prog 35 #[.slice (some ⟨D, 0, none⟩) n cap] w (ListOf w n f) := by
  obtain ⟨i0, hi, hz0, hz1, hz2⟩ := info_parts infoSl
  have q22 : ∀ (w : World) (a : Option Addr) (n c n' c' : Nat), (binOp .eql 42 (.slice a n c) (.slice none n' c')).run Try.prog w = .ok (.bool a.isNone) w := fun w a n c n' c' => Lib.run_eql_slice_nil w _ _ a n c n' c' Try.underlying42
  have HC := Lib.hid h
  have H1 := Lib.hid h1
  clear h h1
  go_enter Try.func35, Try.ntmps35
  go_wp2_with (at_builtin; refine wpList_append_lies _ rfl _ _ 42 rfl w.heap.size 28 i0 (.slice none 0 0) 1 24 Try.underlying42 hi hz0 hz1 hz2 rfl (by decide) _ _ _ rfl (World.ownsRow_made w #[] 0 (Nat.le_refl _) (Nat.zero_le _) rfl) ⟨D, 0, none⟩ n cap ((List.range n).map f) rfl ?qc1 ?qc2 ?qc3 h0 ?qc4 ?qc5 ?qc6 _ rfl ?_)
  case qc1 => simp
  case qc2 =>
    intro j u hj
    have hjn : j < n := by
      have := (List.getElem?_eq_some_iff.1 hj).1
      simp at this
      omega
    have e : (⟨D, 0, none⟩ : Addr).add j = ⟨D, j, none⟩ := by unfold Addr.add; split <;> simp_all
    rw [e]
    refine Lib.cell?_alloc_some _ ?_
    rw [HC.out.cell hjn, ← hj]
    simp [hjn]
  case qc3 =>
    intro u hu
    obtain ⟨i, hi, rfl⟩ := List.mem_map.1 hu
    exact H1.out i (List.mem_range.1 hi)
  case qc4 => unfold maxLen; omega
  case qc5 => omega
  case qc6 => simp
  intro g c w1 hown hgrow hor hlt
  have hown' := Lib.hid hown
  have hgr' : Hid (Grow w w1) := ((Kept.refl _ w).alloc _).grown hgrow (by intro k hk; simp [Value.ownBlock] at hk; omega)
  clear hown hgrow hor hlt
  go_wp2
  go_ret
  have hown := hown'.out
  obtain ⟨g', e1, h1, h2, h3, h4⟩ := Row.of_own (f := f) hown h0 (fun i hi => by simp [hi])
  injection e1 with e1
  injection e1 with e1
  subst e1
  exact ⟨g, c, rfl, h1, h2, hgr'.out⟩

/-- Room for n bytes. -/
def RoomOf (w : World) (e : Ending) (w' : World) : Prop :=
  ∃ g c, e = .returned (.slice (some ⟨g, 0, none⟩) 0 c) ∧ w'.ownsRow w.heap.size 5 1 (.slice (some ⟨g, 0, none⟩) 0 c) 0 [] ∧ Grow w w'

set_option maxHeartbeats 1000000 in
theorem room_any (n : Nat) (w : World) (h0 : 0 < n) (hn : n ≤ 1000000) :
    Calls Try.prog 37 #[.slice none 0 0, .int .i64 (n : Int)] w (RoomOf w) := by
  obtain ⟨i0, hi, hz0, hz1, hz2⟩ := info_parts infoU8
  have hr := fun ty => Lib.run_append_nil_zeros (P := Try.prog) w 28 3 ty 5 i0 (.int .u8 0) .i64 .i64 Try.underlying28 Try.underlying3 hi hz0 n h0 (by omega) (by omega) (by rw [hz2]; omega)
  have hge := grownCap_ge w n 0 5
  have hle := grownCap_le_maxLen w n 0 5 (by unfold maxLen; omega)
  have hw : Hid (∃ cur : Array Value, cur.size = grownCap w n 0 5 ∧ (w.drew.alloc (.cells (Builtin.zeroCells (Value.int .u8 0).cells n ++ Builtin.zeroCells (Value.int .u8 0).cells (grownCap w n 0 5 - n)) 5)) = w.drew.alloc (.cells cur 5)) := by
    refine ⟨_, ?_, rfl⟩
    have : (Value.int .u8 0).cells.size = 1 := rfl
    rw [Array.size_append, size_zeroCells, size_zeroCells, this]
    omega
  generalize grownCap w n 0 5 = C at hr hge hle hw
  obtain ⟨cur, hcs, hcw⟩ := hw.out
  rw [hcw] at hr
  have HCS := Lib.hid hcs
  have HR := Lib.hid hr
  unfold maxLen at hle
  clear hr hcs hcw hw
  go_enter Try.func37, Try.ntmps37
  go_wp2_with (at_builtin; refine Lib.wpList_append_run _ rfl _ _ _ _ rfl _ _ rfl rfl _ _ (HR.out _) ?_)
  go_ret
  refine ⟨w.heap.size, C, rfl, World.ownsRow_made w.drew cur C (Nat.le_refl _) (by unfold maxLen; omega) (by rw [HCS.out]; omega), (Kept.drew' w).alloc _⟩

theorem room_int (N : Int) (n : Nat) (w : World) (hN : N = (n : Int)) (h0 : 0 < n) (hn : n ≤ 1000000) :
    Calls Try.prog 37 #[.slice none 0 0, .int .i64 N] w (RoomOf w) := hN ▸ room_any n w h0 hn

theorem news_of {B b o n : Nat} {zs : List Int} {w wr : World} (h : Sl w B .u8 (some ⟨b, o, none⟩) n zs) (hg : Grow w wr) (hB : B ≤ w.heap.size) :
    ∀ j u, (zs.map (Value.int .u8))[j]? = some u → wr.cell? ((⟨b, o, none⟩ : Addr).add j) = some u := by
  intro j u hj
  have hl := h.len
  have hjn : j < n := by
    have := (List.getElem?_eq_some_iff.1 hj).1
    simp at this
    omega
  obtain ⟨b', o', e', hb, hc⟩ := h.at_ (by omega)
  injection e' with e'
  injection e' with e1 e2
  subst e1 e2
  have e : (⟨b, o, none⟩ : Addr).add j = ⟨b, o + j, none⟩ := by unfold Addr.add; split <;> simp_all
  rw [e, hg.cell (p := ⟨b, o + j, none⟩) (by show b < _; omega) id, hc j hjn, ← hj]
  simp [List.getD, List.getElem?_eq_getElem (show j < zs.length by omega)]

theorem news_at {B b o n : Nat} {zs : List Int} {w wr : World} (h : Sl w B .u8 (some ⟨b, o, none⟩) n zs) (hg : Grow w wr) (hB : B ≤ w.heap.size) :
    ∀ (j : Nat) (a : Int), zs[j]? = some a → wr.cell? ⟨b, o + j, none⟩ = some (.int .u8 a) := by
  intro j a hj
  have e : (⟨b, o, none⟩ : Addr).add j = ⟨b, o + j, none⟩ := by unfold Addr.add; split <;> simp_all
  rw [← e]
  exact news_of h hg hB j (.int .u8 a) (by simp [hj])

set_option maxHeartbeats 1000000 in
theorem concat_any (A0 A1 : Option Addr) (n0 n1 c0 c1 g2 B : Nat) (x y : List Int) (w : World) (h0 : 0 < n0) (h1 : 0 < n1) (hn0 : n0 ≤ 1000) (hn1 : n1 ≤ 1000)
    (hx : Sl w B .u8 A0 n0 x) (hy : Sl w B .u8 A1 n1 y) (k0 : w.cell? ⟨g2, 0, none⟩ = some (.slice A0 n0 c0)) (k1 : w.cell? ⟨g2, 1, none⟩ = some (.slice A1 n1 c1)) (hB : B ≤ w.heap.size) :
    Calls Try.prog 36 #[.slice (some ⟨g2, 0, none⟩) 2 2] w (CloneOf w (n0 + n1) (x ++ y)) := by
  obtain ⟨i0, hi, hz0, hz1, hz2⟩ := info_parts infoU8
  obtain ⟨b0, o0, rfl, _, _⟩ := hx.at_ h0
  obtain ⟨b1, o1, rfl, _, _⟩ := hy.at_ h1
  have hg2 : g2 < w.heap.size := block_lt_of_cell k0
  have HX := Lib.hid hx
  have HY := Lib.hid hy
  clear hx hy
  go_enter Try.func36, Try.ntmps36
  go_wp2
  go_loopg [3, 11] 2 (fun g v i wr => ∃ j : Nat, j + g = 2 ∧ i = .int .i64 (j : Int) ∧ v = .int .i64 ((if j = 0 then 0 else if j = 1 then n0 else n0 + n1 : Nat) : Int) ∧ w = wr)
  case atStart => exact ⟨0, rfl, rfl, rfl, rfl⟩
  case round =>
    obtain ⟨j, hg, rfl, rfl, rfl⟩ := hrel
    match j, hg with
    | 0, hg =>
      obtain rfl : gk = 2 := by omega
      clear hg
      simp only [Int.natCast_zero, Int.cast_ofNat_Int, if_true]
      go_wp2
      go_roundg 1
      case measure => omega
      case rel => exact ⟨1, rfl, rfl, by simp, rfl⟩
    | 1, hg =>
      obtain rfl : gk = 1 := by omega
      clear hg
      simp only [Int.natCast_zero, Int.cast_ofNat_Int, if_true, if_neg (show ¬ (1 = 0) by decide)]
      go_wp2
      go_roundg 0
      case measure => omega
      case rel => exact ⟨2, rfl, rfl, by simp, rfl⟩
    | j + 2, hg =>
      obtain ⟨rfl, rfl⟩ : j = 0 ∧ gk = 0 := by omega
      clear hg
      simp only [Nat.zero_add, Int.cast_ofNat_Int, if_neg (show ¬ (2 = 0) by decide), if_neg (show ¬ (2 = 1) by decide)]
      go_wp2_with (go_at_call 37; (with_reducible refine (room_int ((n0 : Int) + (n1 : Int)) (n0 + n1) _ (by omega) (by omega) (by omega)).mono ?_); rintro e w1 ⟨g, c, rfl, hown, hgr⟩; have HOWN := Lib.hid hown; have HGR := Lib.hid hgr; clear hown hgr)
      have k0' := HGR.out.cellN k0 id
      have k1' := HGR.out.cellN k1 id
      go_loopg [6, 27] 2 (fun gx v i wr => ∃ j : Nat, j + gx = 2 ∧ i = .int .i64 (j : Int) ∧ wr.ownsRow w.heap.size 5 1 v (if j = 0 then 0 else if j = 1 then n0 else n0 + n1) ((if j = 0 then [] else if j = 1 then x else x ++ y).map (Value.int .u8)) ∧ (∃ g c, v = .slice (some ⟨g, 0, none⟩) (if j = 0 then 0 else if j = 1 then n0 else n0 + n1) c) ∧ Grow w wr)
      case atStart => exact ⟨0, rfl, rfl, HOWN.out, ⟨g, c, rfl⟩, HGR.out⟩
      case round =>
        obtain ⟨j, hg, rfl, hown, hv, hgr⟩ := hrel
        have k0' := hgr.cellN k0 id
        have k1' := hgr.cellN k1 id
        have HGW := Lib.hid hgr
        obtain ⟨g1, c1', rfl⟩ := hv
        have HO := Lib.hid hown
        match j, hg with
        | 0, hg =>
          obtain rfl : gk = 2 := by omega
          clear hg hown hgr
          simp only [Int.natCast_zero, Int.cast_ofNat_Int]
          go_wp2_with (at_builtin; refine wpList_append_lies _ rfl _ _ 28 rfl w.heap.size 5 i0 (.int .u8 0) 1 1 Try.underlying28 hi hz0 hz1 hz2 rfl (by decide) _ 0 (([] : List Int).map (Value.int .u8)) rfl HO.out ⟨b0, o0, none⟩ n0 c0 (x.map (Value.int .u8)) rfl ?qc1 ?qc2 ?qc3 h0 ?qc4 ?qc5 ?qc6 _ rfl ?_)
          case qc1 => simp [HX.out.len]
          case qc2 => exact news_at HX.out HGW.out hB
          case qc3 => exact fun _ _ => rfl
          case qc4 => unfold maxLen; omega
          case qc5 => omega
          case qc6 => exact HGW.out.size
          intro g3 c3 w3 hown hgrow hor hlt
          have HO3 := Lib.hid hown
          have HG3 : Hid (Grow w w3) := HGW.out.grown hgrow (by
            intro k hk hlt
            have := (World.ownsRow.lt HO.out k hk).1
            omega)
          clear hown hgrow hor hlt
          go_wp2
          go_roundg 1
          case measure => omega
          case rel => exact ⟨1, rfl, rfl, by simpa using HO3.out, ⟨g3, c3, by simp⟩, HG3.out⟩
        | 1, hg =>
          obtain rfl : gk = 1 := by omega
          clear hg hown hgr
          simp only [Int.natCast_zero, Int.cast_ofNat_Int]
          go_wp2_with (at_builtin; refine wpList_append_lies _ rfl _ _ 28 rfl w.heap.size 5 i0 (.int .u8 0) 1 1 Try.underlying28 hi hz0 hz1 hz2 rfl (by decide) _ n0 (x.map (Value.int .u8)) rfl HO.out ⟨b1, o1, none⟩ n1 c1 (y.map (Value.int .u8)) rfl ?qc1 ?qc2 ?qc3 h1 ?qc4 ?qc5 ?qc6 _ rfl ?_)
          case qc1 => simp [HY.out.len]
          case qc2 => exact news_at HY.out HGW.out hB
          case qc3 => exact fun _ _ => rfl
          case qc4 => unfold maxLen; omega
          case qc5 => omega
          case qc6 => exact HGW.out.size
          intro g3 c3 w3 hown hgrow hor hlt
          have HO3 := Lib.hid hown
          have HG3 : Hid (Grow w w3) := HGW.out.grown hgrow (by
            intro k hk hlt
            have := (World.ownsRow.lt HO.out k hk).1
            omega)
          clear hown hgrow hor hlt
          go_wp2
          go_roundg 0
          case measure => omega
          case rel => exact ⟨2, rfl, rfl, by simpa using HO3.out, ⟨g3, c3, by simp⟩, HG3.out⟩
        | j + 2, hg =>
          obtain ⟨rfl, rfl⟩ : j = 0 ∧ gk = 0 := by omega
          clear hg hown hgr
          simp only [Nat.zero_add, Int.cast_ofNat_Int]
          go_wp2
          go_ret
          have hown := HO.out
          have hl : (x ++ y).length = n0 + n1 := by rw [List.length_append, HX.out.len, HY.out.len]
          obtain ⟨g', e1, q1, q2, q3, q4⟩ := Row.of_own (f := fun i => .int .u8 ((x ++ y).getD i 0)) hown (by simp; omega) (fun i hi => by
            have hi' : i < (x ++ y).length := by rw [hl]; simpa using hi
            simp [-List.map_append, List.getD, List.getElem?_eq_getElem hi'])
          injection e1 with e1
          injection e1 with e1
          subst e1
          exact ⟨g1, c1', by simp, q1, q2, by simpa using q3, q4, HGW.out⟩
end Go.Proofs.Ytfjcbcpfhjaeeaa.LibC
