/-
  Package arena (chapter 10): Body, Set, Frames at every arena and argument; bytes.Clone, slices.Clone.
-/
import Derived.Test.YtcmhkknoffeebaaArRel
import Derived.Test.YtcmhkknoffeebaaGs
namespace Go.Proofs.Ytcmhkknoffeebaa.ArB
open Go.ChangeShapes Go.WideShapes Go.ChangeAt Go.RowKit
open Go.Proofs.Ytcmhkknoffeebaa.Mem Go.Proofs.Ytcmhkknoffeebaa.Blk Go.Proofs.Ytcmhkknoffeebaa.Cells Go.Proofs.Ytcmhkknoffeebaa.Orow Go.Proofs.Ytcmhkknoffeebaa.GsC Go.Proofs.Ytcmhkknoffeebaa.TabM Go.Proofs.Ytcmhkknoffeebaa.ArM Go.Proofs.Ytcmhkknoffeebaa.ArC Go.Proofs.Ytcmhkknoffeebaa.ArD Go.Proofs.Ytcmhkknoffeebaa.Stages

theorem infoU8 : (Try.prog.info? 5).map (fun i => (i.zero, i.size, i.bytes)) = some (some (.int .u8 0), 1, 1) := by kernel_rfl
theorem sizeU8 : (Try.prog.info? 5).map (·.size) = some 1 := by kernel_rfl
theorem infoFr : (Try.prog.info? 36).map (fun i => (i.zero, i.size, i.bytes)) = some (some (.agg #[.int .i64 0, .int .i64 0, .int .i64 0, .int .i64 0, .bool false]), 5, 40) := by kernel_rfl

/-! ### Copies of the caller's own -/
/-- A slice of the caller's own, of n elements of s cells. -/
def CloneOf (w : World) (t : TypeId) (s n : Nat) (f : Nat → Value) (e : Ending) (w' : World) : Prop :=
  ∃ g c, e = .returned (.slice (some ⟨g, 0, none⟩) n c) ∧ w.heap.size ≤ g ∧ OR w' g t s c n f ∧ Grow w w'
def bcell (zs : List Int) (j : Nat) : Value := .int .u8 (zs.getD j 0)

section
variable {w w' : World} {G H F : Nat → Prop} {d g cap dl Dl dt Dt : Nat} {T : Tb} {a : Ar}
theorem fcell_one (F : Nat → Fr) (j : Nat) : (fcell F j).oneCell' = true := by
  unfold fcell fpart
  split
  · rfl
  · split
    · rfl
    · split
      · rfl
      · split <;> rfl
set_option maxHeartbeats 1000000 in
theorem fclone_any (g n cap c : Nat) (F : Nat → Fr) (w : World) (h0 : 0 < n) (hn : n ≤ 1000) (h : FR w g cap n F) :
    Calls Try.prog 20 #[.slice (some ⟨g, 0, none⟩) n c] w (CloneOf w 36 5 n (fcell F)) := by
  obtain ⟨i0, hi, hz0, hz1, hz2⟩ := info_parts infoFr
  have q22 : ∀ (w : World) (a : Option Addr) (n c n' c' : Nat), (binOp .eql 30 (.slice a n c) (.slice none n' c')).run Try.prog w = .ok (.bool a.isNone) w := fun w a n c n' c' => Lib.run_eql_slice_nil w _ _ a n c n' c' Try.underlying30
  have HC := Lib.hid h
  clear h
  go_enter Try.func20, Try.ntmps20
  go_wp2_with (at_builtin; refine wpList_append_lies _ rfl _ _ 30 rfl w.heap.size 36 i0 _ 5 40 Try.underlying30 hi hz0 hz1 hz2 rfl (by decide) _ _ _ rfl (World.ownsRow_made w #[] 0 (Nat.le_refl _) (Nat.zero_le _) rfl) ⟨g, 0, none⟩ n c ((List.range (n * 5)).map (fcell F)) rfl ?qc1 ?qc2 ?qc3 h0 ?qc4 ?qc5 ?qc6 _ rfl ?_)
  case qc1 => simp
  case qc2 =>
    intro j u hj
    have hjn : j < n * 5 := by
      have := (List.getElem?_eq_some_iff.1 hj).1
      simpa using this
    have e : (⟨g, 0, none⟩ : Addr).add j = ⟨g, j, none⟩ := by unfold Addr.add; split <;> simp_all
    rw [e]
    refine Lib.cell?_alloc_some _ ?_
    rw [OR.cell HC.out hjn, ← hj]
    simp [hjn]
  case qc3 => intro u hu; obtain ⟨x, _, rfl⟩ := List.mem_map.1 hu; exact fcell_one F x
  case qc4 => unfold maxLen; omega
  case qc5 => omega
  case qc6 => simp
  intro g1 c1 w1 hown hgrow hor hlt
  have hown' := Lib.hid hown
  have hgr' : Hid (Grow w w1) := ((Kept.refl _ w).alloc _).grown hgrow (by intro k hk; simp [Value.ownBlock] at hk; omega)
  clear hown hgrow hor hlt
  go_wp2
  go_ret
  have hown := hown'.out
  obtain ⟨h1, h2⟩ := OR.of_own (f := fcell F) hown (fun i hi => by simp [hi])
  exact ⟨g1, c1, rfl, h2, h1, hgr'.out⟩

/-! ### Frames -/
/-- All frames, the caller's own. -/
def FramesPost (a : Ar) (w : World) (e : Ending) (w' : World) : Prop :=
  ∃ v, e = .returned v ∧ OS w' (w.heap.size ≤ ·) v 36 5 a.n (fcell a.F) ∧ Grow w w'
theorem frames_any (h : ArAt w G d a) : Calls Try.prog 9 #[.pointer (some ⟨d, 0, none⟩)] w (FramesPost a w) := by
  rcases h.mem with h' | ⟨g, cap, dl, Dl, dt, Dt, T, hb⟩
  · have c0 := h'.h0
    have HZ := Lib.hid h'.zero
    have q22 : ∀ (w : World) (a : Option Addr) (n c n' c' : Nat), (binOp .eql 30 (.slice a n c) (.slice none n' c')).run Try.prog w = .ok (.bool a.isNone) w := fun w a n c n' c' => Lib.run_eql_slice_nil w _ _ a n c n' c' Try.underlying30
    have HC : Hid (∀ w, Calls Try.prog 20 #[.slice none 0 0] w fun e w' => e = .returned (.slice none 0 0) ∧ w = w') := fun w => by
      go_enter Try.func20, Try.ntmps20
      go_wp2
      go_ret
      exact ⟨rfl, rfl⟩
    clear h h' q22
    go_enter Try.func9, Try.ntmps9
    go_wp2_with (go_at_call 20; (with_reducible refine (HC.out _).mono ?_); rintro e w' ⟨rfl, rfl⟩)
    go_ret
    exact ⟨_, rfl, .inl ⟨rfl, HZ.out⟩, Kept.refl _ _⟩
  · have c0 := hb.h0
    have HC := Lib.hid (fclone_any g a.n cap cap a.F w hb.pos (by have := h.good.n; omega) hb.fr)
    clear h hb
    go_enter Try.func9, Try.ntmps9
    go_wp2_with (go_at_call 20; (with_reducible refine HC.out.mono ?_); rintro e w1 ⟨g1, c1, rfl, hb, ho, hg⟩; have HO := Lib.hid ho; have HB := Lib.hid hb; have HG := Lib.hid hg; clear hb ho hg)
    go_ret
    exact ⟨_, rfl, .inr ⟨g1, c1, rfl, HO.out, HB.out⟩, HG.out⟩

/-! ### Body -/
theorem acell_b (v pl pt : Value) (B : Nat → List Int) (f j : Nat) (hf : f < 32) (hj : j < 16) : acell v B pl pt (1 + f * 16 + j) = .int .u8 ((B f).getD j 0) := by
  unfold acell
  rw [if_neg (by omega), if_pos (by omega), show (1 + f * 16 + j - 1) / 16 = f by omega, show (1 + f * 16 + j - 1) % 16 = j by omega]
theorem body_sl {v pl pt : Value} (h : Row w d 515 (acell v a.B pl pt)) (hg : ArM.Good a) (f : Nat) (hf : f < 32) : Sl w w.heap.size .u8 (some ⟨d, 1 + f * 16, none⟩) 16 (a.B f) :=
  ⟨hg.b f, fun _ => ⟨d, 1 + f * 16, rfl, h.lt, fun j hj => by rw [h.cell (by omega), acell_b _ _ _ _ _ _ hf hj]⟩⟩
/-- The bytes of a frame, the caller's own; nothing of one that is not used. -/
def BodyPost (a : Ar) (k : Int) (w : World) (e : Ending) (w' : World) : Prop :=
  ∃ v, e = .returned v ∧ OS w' (w.heap.size ≤ ·) v 5 1 (if a.used k = true then 16 else 0) (bcell (a.B k.toNat)) ∧ Grow w w'
/-! ### Set -/
theorem splice_get {b zs : List Int} {o j : Nat} (hb : b.length = 16) (ho : o + zs.length ≤ 16) (hj : j < 16) : (ArM.splice b o zs).getD j 0 = if o ≤ j ∧ j < o + zs.length then zs.getD (j - o) 0 else b.getD j 0 := by
  unfold ArM.splice
  simp only [List.getD_eq_getElem?_getD]
  by_cases e1 : j < o
  · rw [if_neg (by omega), List.getElem?_append_left (by rw [List.length_take]; omega), List.getElem?_take, if_pos e1]
  · rw [List.getElem?_append_right (by rw [List.length_take]; omega), List.length_take, show min o b.length = o by omega]
    by_cases e2 : j < o + zs.length
    · rw [if_pos ⟨by omega, e2⟩, List.getElem?_append_left (by omega)]
    · rw [if_neg (by omega), List.getElem?_append_right (by omega), List.getElem?_drop, show o + zs.length + (j - o - zs.length) = j by omega]
theorem acell_set (v pl pt : Value) {B : Nat → List Int} {f o : Nat} {zs : List Int} (hf : f < 32) (hb : ∀ x, (B x).length = 16) (ho : o + zs.length ≤ 16) (i : Nat) (hi : i < 515) : laid (acell v B pl pt) (1 + f * 16 + o) zs.length (bcell zs) i = acell v (upd B f (ArM.splice (B f) o zs)) pl pt i := by
  by_cases h0 : i = 0
  · subst h0
    unfold laid
    rw [if_neg (by omega)]
    rfl
  · by_cases h1 : i ≤ 512
    · obtain ⟨p, j, hp, hj, rfl⟩ : ∃ p j, p < 32 ∧ j < 16 ∧ i = 1 + p * 16 + j := ⟨(i - 1) / 16, (i - 1) % 16, by omega, by omega, by omega⟩
      rw [acell_b _ _ _ _ _ _ hp hj]
      unfold laid
      rw [acell_b _ _ _ _ _ _ hp hj]
      by_cases e : p = f
      · subst e
        rw [upd_same, splice_get (hb p) ho hj]
        by_cases e2 : o ≤ j ∧ j < o + zs.length
        · rw [if_pos e2, if_pos (by omega)]
          unfold bcell
          rw [show 1 + p * 16 + j - (1 + p * 16 + o) = j - o by omega]
        · rw [if_neg e2, if_neg (by omega)]
      · rw [upd_other _ _ e, if_neg (by omega)]
    · unfold laid acell
      rw [if_neg (by omega), if_neg h0, if_neg h1, if_neg h0, if_neg h1]
theorem slice_body (d f o : Nat) (ho : o ≤ 16) (w : World) : (Instr.sliceAt 53 (.pointer (some ⟨d, 1 + f * 16, none⟩)) (some (.int .i64 (o : Int))) none none).run Try.prog w = .ok (.slice (some (if 16 = o then ⟨d, 1 + f * 16, none⟩ else ⟨d, 1 + f * 16 + o, none⟩)) (16 - o) (16 - o)) w := by
  have hal : Try.prog.arrayLen 53 = 16 := by kernel_rfl
  have hel : Try.prog.elem 53 = 5 := by kernel_rfl
  obtain ⟨i0, hi, hz0, hz1, hz2⟩ := info_parts infoU8
  have := run_sliceAt_array_l (P := Try.prog) w 53 ⟨d, 1 + f * 16, none⟩ (by rw [hal, hel]; exact Try.underlying53) .i64 (o : Int) (by omega) (by rw [hal]; omega)
  rw [this, hal, hel, Int.toNat_natCast]
  simp [slicedAt, sizeOf, typeInfo, hi, hz1, add_off]
end
end Go.Proofs.Ytcmhkknoffeebaa.ArB
