/-
  Package arena (chapter 10): Body, Set, Frames at every arena and argument; bytes.Clone, slices.Clone.
-/
import Derived.Test.YtcebjeemganhdaaArRel
import Derived.Test.YtcebjeemganhdaaGs
namespace Go.Proofs.Ytcebjeemganhdaa.ArB
open Go.ChangeShapes Go.WideShapes Go.ChangeAt Go.RowKit
open Go.Proofs.Ytcebjeemganhdaa.Mem Go.Proofs.Ytcebjeemganhdaa.Blk Go.Proofs.Ytcebjeemganhdaa.Cells Go.Proofs.Ytcebjeemganhdaa.Orow Go.Proofs.Ytcebjeemganhdaa.GsC Go.Proofs.Ytcebjeemganhdaa.TabM Go.Proofs.Ytcebjeemganhdaa.ArM Go.Proofs.Ytcebjeemganhdaa.ArC Go.Proofs.Ytcebjeemganhdaa.ArD Go.Proofs.Ytcebjeemganhdaa.Stages

theorem infoU8 : (Try.prog.info? 5).map (fun i => (i.zero, i.size, i.bytes)) = some (some (.int .u8 0), 1, 1) := by kernel_rfl
theorem sizeU8 : (Try.prog.info? 5).map (·.size) = some 1 := by kernel_rfl
theorem infoFr : (Try.prog.info? 42).map (fun i => (i.zero, i.size, i.bytes)) = some (some (.agg #[.int .i64 0, .int .i64 0, .int .i64 0, .int .i64 0, .bool false]), 5, 40) := by kernel_rfl

/-! ### Copies of the caller's own -/
/-- A slice of the caller's own, of n elements of s cells. -/
def CloneOf (w : World) (t : TypeId) (s n : Nat) (f : Nat → Value) (e : Ending) (w' : World) : Prop :=
  ∃ g c, e = .returned (.slice (some ⟨g, 0, none⟩) n c) ∧ w.heap.size ≤ g ∧ OR w' g t s c n f ∧ Grow w w'
def bcell (zs : List Int) (j : Nat) : Value := .int .u8 (zs.getD j 0)

section
variable {w w' : World} {G H F : Nat → Prop} {d g cap dl Dl dt Dt : Nat} {T : Tb} {a : Ar}
set_option maxHeartbeats 1000000 in
theorem bclone_any (A : Option Addr) (n cap B : Nat) (zs : List Int) (w : World) (h0 : 0 < n) (hn : n ≤ 100000) (h : Sl w B .u8 A n zs) :
    Calls Try.prog 48 #[.slice A n cap] w (CloneOf w 5 1 n (bcell zs)) := by
  obtain ⟨i0, hi, hz0, hz1, hz2⟩ := info_parts infoU8
  obtain ⟨b, off, rfl, hb, hc⟩ := h.at_ h0
  have q22 : ∀ (w : World) (a : Option Addr) (n c n' c' : Nat), (binOp .eql 28 (.slice a n c) (.slice none n' c')).run Try.prog w = .ok (.bool a.isNone) w := fun w a n c n' c' => Lib.run_eql_slice_nil w _ _ a n c n' c' Try.underlying28
  have hl := h.len
  have HC := Lib.hid hc
  have HL := Lib.hid hl
  clear hc hl h
  go_enter Try.func48, Try.ntmps48
  go_wp2_with (at_builtin; refine wpList_append_lies _ rfl _ _ 28 rfl w.heap.size 5 i0 (.int .u8 0) 1 1 Try.underlying28 hi hz0 hz1 hz2 rfl (by decide) _ _ _ rfl (World.ownsRow_made w #[] 0 (Nat.le_refl _) (Nat.zero_le _) rfl) ⟨b, off, none⟩ n cap (zs.map (Value.int .u8)) rfl ?qc1 ?qc2 ?qc3 h0 ?qc4 ?qc5 ?qc6 _ rfl ?_)
  case qc1 => simp [HL.out]
  case qc2 =>
    intro j u hj
    have hl := HL.out
    have hjn : j < n := by
      have := (List.getElem?_eq_some_iff.1 hj).1
      simp at this
      omega
    have e : (⟨b, off, none⟩ : Addr).add j = ⟨b, off + j, none⟩ := by unfold Addr.add; split <;> simp_all
    rw [e]
    refine Lib.cell?_alloc_some _ ?_
    rw [HC.out j hjn, ← hj]
    simp [List.getD, List.getElem?_eq_getElem (show j < zs.length by omega)]
  case qc3 => intro u hu; obtain ⟨x, _, rfl⟩ := List.mem_map.1 hu; rfl
  case qc4 => unfold maxLen; omega
  case qc5 => omega
  case qc6 => simp
  intro g c w1 hown hgrow hor hlt
  have hown' := Lib.hid hown
  have hgr' : Hid (Grow w w1) := ((Kept.refl _ w).alloc _).grown hgrow (by intro k hk; simp [Value.ownBlock] at hk; omega)
  clear hown hgrow hor hlt
  go_wp2
  go_ret
  have hz := HL.out
  have hown := hown'.out
  obtain ⟨h1, h2⟩ := OR.of_own (f := bcell zs) hown (fun i hi => by simp [bcell, List.getD, List.getElem?_eq_getElem (show i < zs.length by omega)])
  exact ⟨g, c, rfl, h2, h1, hgr'.out⟩
theorem fcell_one (F : Nat → Fr) (j : Nat) : (fcell F j).oneCell' = true := by
  unfold fcell fpart
  split
  · rfl
  · split
    · rfl
    · split
      · rfl
      · split <;> rfl
set_option maxHeartbeats 1000000 in
theorem fclone_any (g n cap c : Nat) (F : Nat → Fr) (w : World) (h0 : 0 < n) (hn : n ≤ 1000) (h : FR w g cap n F) :
    Calls Try.prog 47 #[.slice (some ⟨g, 0, none⟩) n c] w (CloneOf w 42 5 n (fcell F)) := by
  obtain ⟨i0, hi, hz0, hz1, hz2⟩ := info_parts infoFr
  have q22 : ∀ (w : World) (a : Option Addr) (n c n' c' : Nat), (binOp .eql 39 (.slice a n c) (.slice none n' c')).run Try.prog w = .ok (.bool a.isNone) w := fun w a n c n' c' => Lib.run_eql_slice_nil w _ _ a n c n' c' Try.underlying39
  have HC := Lib.hid h
  clear h
  go_enter Try.func47, Try.ntmps47
  go_wp2_with (at_builtin; refine wpList_append_lies _ rfl _ _ 39 rfl w.heap.size 42 i0 _ 5 40 Try.underlying39 hi hz0 hz1 hz2 rfl (by decide) _ _ _ rfl (World.ownsRow_made w #[] 0 (Nat.le_refl _) (Nat.zero_le _) rfl) ⟨g, 0, none⟩ n c ((List.range (n * 5)).map (fcell F)) rfl ?qc1 ?qc2 ?qc3 h0 ?qc4 ?qc5 ?qc6 _ rfl ?_)
  case qc1 => simp
  case qc2 =>
    intro j u hj
    have hjn : j < n * 5 := by
      have := (List.getElem?_eq_some_iff.1 hj).1
      simpa using this
    have e : (⟨g, 0, none⟩ : Addr).add j = ⟨g, j, none⟩ := by unfold Addr.add; split <;> simp_all
    rw [e]
    refine Lib.cell?_alloc_some _ ?_
    rw [OR.cell HC.out hjn, ← hj]
    simp [hjn]
  case qc3 => intro u hu; obtain ⟨x, _, rfl⟩ := List.mem_map.1 hu; exact fcell_one F x
  case qc4 => unfold maxLen; omega
  case qc5 => omega
  case qc6 => simp
  intro g1 c1 w1 hown hgrow hor hlt
  have hown' := Lib.hid hown
  have hgr' : Hid (Grow w w1) := ((Kept.refl _ w).alloc _).grown hgrow (by intro k hk; simp [Value.ownBlock] at hk; omega)
  clear hown hgrow hor hlt
  go_wp2
  go_ret
  have hown := hown'.out
  obtain ⟨h1, h2⟩ := OR.of_own (f := fcell F) hown (fun i hi => by simp [hi])
  exact ⟨g1, c1, rfl, h2, h1, hgr'.out⟩

/-! ### Frames -/
/-- All frames, the caller's own. -/
def FramesPost (a : Ar) (w : World) (e : Ending) (w' : World) : Prop :=
  ∃ v, e = .returned v ∧ OS w' (w.heap.size ≤ ·) v 42 5 a.n (fcell a.F) ∧ Grow w w'
theorem frames_any (h : ArAt w G d a) : Calls Try.prog 31 #[.pointer (some ⟨d, 0, none⟩)] w (FramesPost a w) := by
  rcases h.mem with h' | ⟨g, cap, dl, Dl, dt, Dt, T, hb⟩
  · have c0 := h'.h0
    have HZ := Lib.hid h'.zero
    have q22 : ∀ (w : World) (a : Option Addr) (n c n' c' : Nat), (binOp .eql 39 (.slice a n c) (.slice none n' c')).run Try.prog w = .ok (.bool a.isNone) w := fun w a n c n' c' => Lib.run_eql_slice_nil w _ _ a n c n' c' Try.underlying39
    have HC : Hid (∀ w, Calls Try.prog 47 #[.slice none 0 0] w fun e w' => e = .returned (.slice none 0 0) ∧ w = w') := fun w => by
      go_enter Try.func47, Try.ntmps47
      go_wp2
      go_ret
      exact ⟨rfl, rfl⟩
    clear h h' q22
    go_enter Try.func31, Try.ntmps31
    go_wp2_with (go_at_call 47; (with_reducible refine (HC.out _).mono ?_); rintro e w' ⟨rfl, rfl⟩)
    go_ret
    exact ⟨_, rfl, .inl ⟨rfl, HZ.out⟩, Kept.refl _ _⟩
  · have c0 := hb.h0
    have HC := Lib.hid (fclone_any g a.n cap cap a.F w hb.pos (by have := h.good.n; omega) hb.fr)
    clear h hb
    go_enter Try.func31, Try.ntmps31
    go_wp2_with (go_at_call 47; (with_reducible refine HC.out.mono ?_); rintro e w1 ⟨g1, c1, rfl, hb, ho, hg⟩; have HO := Lib.hid ho; have HB := Lib.hid hb; have HG := Lib.hid hg; clear hb ho hg)
    go_ret
    exact ⟨_, rfl, .inr ⟨g1, c1, rfl, HO.out, HB.out⟩, HG.out⟩

/-! ### Body -/
theorem acell_b (v pl pt : Value) (B : Nat → List Int) (f j : Nat) (hf : f < 32) (hj : j < 16) : acell v B pl pt (1 + f * 16 + j) = .int .u8 ((B f).getD j 0) := by
  unfold acell
  rw [if_neg (by omega), if_pos (by omega), show (1 + f * 16 + j - 1) / 16 = f by omega, show (1 + f * 16 + j - 1) % 16 = j by omega]
theorem body_sl {v pl pt : Value} (h : Row w d 515 (acell v a.B pl pt)) (hg : ArM.Good a) (f : Nat) (hf : f < 32) : Sl w w.heap.size .u8 (some ⟨d, 1 + f * 16, none⟩) 16 (a.B f) :=
  ⟨hg.b f, fun _ => ⟨d, 1 + f * 16, rfl, h.lt, fun j hj => by rw [h.cell (by omega), acell_b _ _ _ _ _ _ hf hj]⟩⟩
theorem body_bad (h : ArAt w G d a) (k : Int) (hk : a.used k = false) : Calls Try.prog 32 #[.pointer (some ⟨d, 0, none⟩), .int .i64 k] w fun e w' => e = .returned (.slice none 0 0) ∧ w = w' := by
  have HU := Lib.hid (used_bad h k hk)
  clear h hk
  go_enter Try.func32, Try.ntmps32
  go_wp2_with (go_at_call 37; (with_reducible refine HU.out.mono ?_); rintro e w' ⟨rfl, rfl⟩)
  go_ret
  exact ⟨rfl, rfl⟩
/-- The bytes of a frame, the caller's own; nothing of one that is not used. -/
def BodyPost (a : Ar) (k : Int) (w : World) (e : Ending) (w' : World) : Prop :=
  ∃ v, e = .returned v ∧ OS w' (w.heap.size ≤ ·) v 5 1 (if a.used k = true then 16 else 0) (bcell (a.B k.toNat)) ∧ Grow w w'
theorem body_any (h : ArAt w G d a) (k : Int) : Calls Try.prog 32 #[.pointer (some ⟨d, 0, none⟩), .int .i64 k] w (BodyPost a k w) := by
  cases hu : a.used k with
  | false =>
    have HU := Lib.hid (used_bad h k hu)
    have HE := Lib.hid hu
    clear h hu
    go_enter Try.func32, Try.ntmps32
    go_wp2_with (go_at_call 37; (with_reducible refine HU.out.mono ?_); rintro e w' ⟨rfl, rfl⟩)
    go_ret
    refine ⟨_, rfl, .inl ⟨rfl, ?_⟩, Kept.refl _ _⟩
    rw [HE.out]; rfl
  | true =>
    have HE := Lib.hid hu
    obtain ⟨f, rfl, hf, hs⟩ := used_iff.1 hu
    have hn32 := h.good.n
    obtain ⟨g, cap, dl, Dl, dt, Dt, T, hb⟩ := ArAt.big h (by omega)
    have HU := Lib.hid (used_good hb h.good.n f hf hs)
    have HC := Lib.hid (bclone_any (some ⟨d, 1 + f * 16, none⟩) 16 16 _ _ w (by omega) (by omega) (body_sl hb.hd h.good f (by omega)))
    have hfz : (f : Int) < 32 := by omega
    clear h hb hu hs
    go_enter Try.func32, Try.ntmps32
    go_wp2_with (first
      | (go_at_call 37; (with_reducible refine HU.out.mono ?_); rintro e w' ⟨rfl, rfl⟩)
      | (go_at_call 48; (with_reducible refine HC.out.mono ?_); rintro e w1 ⟨g1, c1, rfl, hb, ho, hg⟩; have HO := Lib.hid ho; have HB := Lib.hid hb; have HG := Lib.hid hg; clear hb ho hg))
    go_ret
    refine ⟨_, rfl, ?_, HG.out⟩
    rw [if_pos HE.out, Int.toNat_natCast]
    exact .inr ⟨g1, c1, rfl, HO.out, HB.out⟩

theorem body_good (h : ArAt w G d a) (k : Int) (hk : a.used k = true) : Calls Try.prog 32 #[.pointer (some ⟨d, 0, none⟩), .int .i64 k] w (CloneOf w 5 1 16 (bcell (a.B k.toNat))) := by
  refine (body_any h k).mono fun e w' ⟨v, he, ho, hg⟩ => ?_
  rw [if_pos hk] at ho
  obtain ⟨g1, c1, rfl, ho, hb⟩ := ho.form (by omega)
  exact ⟨g1, c1, he, hb, ho, hg⟩

/-! ### Set -/
theorem splice_get {b zs : List Int} {o j : Nat} (hb : b.length = 16) (ho : o + zs.length ≤ 16) (hj : j < 16) : (ArM.splice b o zs).getD j 0 = if o ≤ j ∧ j < o + zs.length then zs.getD (j - o) 0 else b.getD j 0 := by
  unfold ArM.splice
  simp only [List.getD_eq_getElem?_getD]
  by_cases e1 : j < o
  · rw [if_neg (by omega), List.getElem?_append_left (by rw [List.length_take]; omega), List.getElem?_take, if_pos e1]
  · rw [List.getElem?_append_right (by rw [List.length_take]; omega), List.length_take, show min o b.length = o by omega]
    by_cases e2 : j < o + zs.length
    · rw [if_pos ⟨by omega, e2⟩, List.getElem?_append_left (by omega)]
    · rw [if_neg (by omega), List.getElem?_append_right (by omega), List.getElem?_drop, show o + zs.length + (j - o - zs.length) = j by omega]
theorem acell_set (v pl pt : Value) {B : Nat → List Int} {f o : Nat} {zs : List Int} (hf : f < 32) (hb : ∀ x, (B x).length = 16) (ho : o + zs.length ≤ 16) (i : Nat) (hi : i < 515) : laid (acell v B pl pt) (1 + f * 16 + o) zs.length (bcell zs) i = acell v (upd B f (ArM.splice (B f) o zs)) pl pt i := by
  by_cases h0 : i = 0
  · subst h0
    unfold laid
    rw [if_neg (by omega)]
    rfl
  · by_cases h1 : i ≤ 512
    · obtain ⟨p, j, hp, hj, rfl⟩ : ∃ p j, p < 32 ∧ j < 16 ∧ i = 1 + p * 16 + j := ⟨(i - 1) / 16, (i - 1) % 16, by omega, by omega, by omega⟩
      rw [acell_b _ _ _ _ _ _ hp hj]
      unfold laid
      rw [acell_b _ _ _ _ _ _ hp hj]
      by_cases e : p = f
      · subst e
        rw [upd_same, splice_get (hb p) ho hj]
        by_cases e2 : o ≤ j ∧ j < o + zs.length
        · rw [if_pos e2, if_pos (by omega)]
          unfold bcell
          rw [show 1 + p * 16 + j - (1 + p * 16 + o) = j - o by omega]
        · rw [if_neg e2, if_neg (by omega)]
      · rw [upd_other _ _ e, if_neg (by omega)]
    · unfold laid acell
      rw [if_neg (by omega), if_neg h0, if_neg h1, if_neg h0, if_neg h1]
theorem set_bad (h : ArAt w G d a) (k off : Int) (v : Value) (hk : a.used k = false) : Calls Try.prog 19 #[.pointer (some ⟨d, 0, none⟩), .int .i64 k, .int .i64 off, v] w fun e w' => e = .returned (.int .i64 2) ∧ w = w' := by
  have HU := Lib.hid (used_bad h k hk)
  clear h hk
  go_enter Try.func19, Try.ntmps19
  go_wp2_with (go_at_call 37; (with_reducible refine HU.out.mono ?_); rintro e w' ⟨rfl, rfl⟩)
  go_ret
  exact ⟨rfl, rfl⟩
/-- The copy into a body. -/
theorem copy_body {v pl pt : Value} (h : Row w d 515 (acell v a.B pl pt)) (hb : ∀ x, (a.B x).length = 16) (f : Nat) (hf : f < 32) (o n c B : Nat) (A : Option Addr) (zs : List Int) (hs : Sl w B .u8 A n zs) (ho : o + n ≤ 16) :
    ∃ w', (∀ ty, (Builtin.copy_ #[28, 28] ty #[.slice (some (if 16 = o then ⟨d, 1 + f * 16, none⟩ else ⟨d, 1 + f * 16 + o, none⟩)) (16 - o) (16 - o), .slice A n c]).run Try.prog w = .ok (.int .i64 (n : Int)) w') ∧ Row w' d 515 (acell v (upd a.B f (ArM.splice (a.B f) o zs)) pl pt) ∧ Kept (· = d) w w' := by
  have hl := hs.len
  rcases Nat.eq_zero_or_pos n with h0 | h0
  · refine ⟨w, fun ty => ?_, h.congr fun i hi => ?_, Kept.refl _ _⟩
    · subst h0
      exact run_copy_none w 28 28 ty 5 _ A _ _ 0 c Try.underlying28 sizeU8 (by simp)
    · rw [← acell_set v pl pt hf hb (by omega) i hi]
      unfold laid
      rw [if_neg (by omega)]
  · obtain ⟨b, off, rfl, _, hc⟩ := hs.at_ h0
    rw [if_neg (by omega)]
    obtain ⟨w', h1, h2, h3⟩ := copy_row (P := Try.prog) (w := w) 28 28 5 Try.underlying28 sizeU8 h (1 + f * 16 + o) (16 - o) ⟨b, off, none⟩ n (m := n) (u := bcell zs) (by simp only [Nat.min_def]; split <;> omega) (by omega) (fun j hj => by rw [add_off, hc j hj]; rfl) (fun _ _ => rfl)
    refine ⟨w', fun ty => h1 ty _ _, h2.congr fun i hi => ?_, h3⟩
    rw [← hl]
    exact acell_set v pl pt hf hb (by omega) i hi
theorem slice_body (d f o : Nat) (ho : o ≤ 16) (w : World) : (Instr.sliceAt 48 (.pointer (some ⟨d, 1 + f * 16, none⟩)) (some (.int .i64 (o : Int))) none none).run Try.prog w = .ok (.slice (some (if 16 = o then ⟨d, 1 + f * 16, none⟩ else ⟨d, 1 + f * 16 + o, none⟩)) (16 - o) (16 - o)) w := by
  have hal : Try.prog.arrayLen 48 = 16 := by kernel_rfl
  have hel : Try.prog.elem 48 = 5 := by kernel_rfl
  obtain ⟨i0, hi, hz0, hz1, hz2⟩ := info_parts infoU8
  have := run_sliceAt_array_l (P := Try.prog) w 48 ⟨d, 1 + f * 16, none⟩ (by rw [hal, hel]; exact Try.underlying48) .i64 (o : Int) (by omega) (by rw [hal]; omega)
  rw [this, hal, hel, Int.toNat_natCast]
  simp [slicedAt, sizeOf, typeInfo, hi, hz1, add_off]
set_option maxHeartbeats 1000000 in
theorem set_any (h : ArAt w G d a) (k off : Int) (A : Option Addr) (n c B : Nat) (zs : List Int) (hsl : Sl w B .u8 A n zs) (hn : n ≤ 1000000) : Calls Try.prog 19 #[.pointer (some ⟨d, 0, none⟩), .int .i64 k, .int .i64 off, .slice A n c] w (APost G d w (.int .i64 (a.setC k off zs)) (a.set k off zs)) := by
  cases hu : a.used k with
  | false =>
    have e1 : a.setC k off zs = 2 := by unfold Ar.setC; rw [hu]; rfl
    have e2 : a.set k off zs = a := by unfold Ar.set; rw [e1]; rfl
    rw [e1, e2]
    exact (set_bad h k off _ hu).mono fun e w' ⟨h1, h2⟩ => ⟨h1, h2 ▸ h, h2 ▸ Kept.refl _ _⟩
  | true =>
    obtain ⟨f, rfl, hf, hs⟩ := used_iff.1 hu
    have HG := Lib.hid (h.good.set (f : Int) off zs)
    have hn32 := h.good.n
    obtain ⟨g, cap, dl, Dl, dt, Dt, T, hb⟩ := ArAt.big h (by omega)
    have HU := Lib.hid (used_good hb h.good.n f hf hs)
    have hl := hsl.len
    have hnz0 : (n : Int) ≤ 1000000 := by omega
    by_cases hin : 0 ≤ off ∧ off + (zs.length : Int) ≤ 16
    · obtain ⟨o, rfl⟩ := Int.eq_ofNat_of_zero_le hin.1
      have ho : o + n ≤ 16 := by omega
      have e1 : a.setC (f : Int) (o : Int) zs = 0 := by unfold Ar.setC; rw [if_pos hu, if_pos hin]
      have e2 : a.set (f : Int) (o : Int) zs = ⟨a.n, upd a.F f ⟨(a.F f).st, (a.F f).pg, (a.F f).pn, true⟩, upd a.B f (ArM.splice (a.B f) o zs), a.Q⟩ := by unfold Ar.set; rw [if_pos e1, Int.toNat_natCast, Int.toNat_natCast]
      rw [e2] at HG
      rw [e1, e2]
      obtain ⟨w1, hcp, hr, hk⟩ := copy_body (pl := .pointer (some ⟨dl, 0, none⟩)) (pt := .pointer (some ⟨dt, 0, none⟩)) hb.hd h.good.b f (by omega) o n c B A zs hsl ho
      have hsa := slice_body d f o (by omega)
      have H1 := Lib.hid (hb.core.hdr hr hk)
      have HK1 := Lib.hid (hb.core.kd hk)
      have HT : Hid (Tabs T ⟨a.n, upd a.F f ⟨(a.F f).st, (a.F f).pg, (a.F f).pn, true⟩, upd a.B f (ArM.splice (a.B f) o zs), a.Q⟩) := hb.ts.turn hf Iff.rfl fun _ => rfl
      have HP := Lib.hid hb.pos
      have c0 := hb.h0
      have hfz : (f : Int) < (a.n : Int) := by omega
      have hnz : (a.n : Int) ≤ 32 := by omega
      have hoz : (o : Int) + (n : Int) ≤ 16 := by omega
      clear h hb hu hs e1 e2 hr hk hin hsl hl ho
      generalize (if 16 = o then (⟨d, 1 + f * 16, none⟩ : Addr) else ⟨d, 1 + f * 16 + o, none⟩) = X at *
      go_enter Try.func19, Try.ntmps19
      go_upto_region 7 with (go_at_call 37; (with_reducible refine HU.out.mono ?_); rintro e w' ⟨rfl, rfl⟩)
      clear hcp hsa c0
      have c0 := H1.out.h0
      have f0 := FR.c4 H1.out.fr hf
      have fz := H1.out.fr.frozen
      dsimp only at c0 f0
      go_wp2
      go_ret
      have hk := kept_set w1 g (f * 5 + 4) (.bool true)
      exact ⟨rfl, ⟨HG.out, .inr ⟨_, _, _, _, _, _, _, (H1.out.frm (FR.set4 H1.out.fr f true) hk).big HT.out HP.out⟩⟩, HK1.out.trans (H1.out.kg hk)⟩
    · have e1 : a.setC (f : Int) off zs = 6 := by unfold Ar.setC; rw [if_pos hu, if_neg hin]
      have e2 : a.set (f : Int) off zs = a := by unfold Ar.set; rw [e1]; rfl
      rw [e1, e2]
      have HA := Lib.hid h
      have hbad : (decide (off < 0) || decide (16 - (n : Int) < off)) = true := by
        simp only [Bool.or_eq_true, decide_eq_true_eq]
        omega
      clear h hb hu hs e1 e2 hsl HG
      by_cases h0 : off < 0
      · clear hbad hin
        go_enter Try.func19, Try.ntmps19
        go_wp2_with (go_at_call 37; (with_reducible refine HU.out.mono ?_); rintro e w' ⟨rfl, rfl⟩)
        go_ret
        exact ⟨rfl, HA.out, Kept.refl _ _⟩
      · have h1 : 16 - (n : Int) < off := by omega
        have h0' : 0 ≤ off := by omega
        clear hbad hin h0
        go_enter Try.func19, Try.ntmps19
        go_wp2_with (go_at_call 37; (with_reducible refine HU.out.mono ?_); rintro e w' ⟨rfl, rfl⟩)
        go_ret
        exact ⟨rfl, HA.out, Kept.refl _ _⟩
end
end Go.Proofs.Ytcebjeemganhdaa.ArB
