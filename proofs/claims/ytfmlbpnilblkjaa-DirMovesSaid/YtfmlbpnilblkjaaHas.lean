/-
  Numbers in slices told by a function ('Has'), in blocks that may be written ('Nr', 'Nm'); append, slices.Clone and slices.Equal of ints.
-/
import Derived.Test.YtfmlbpnilblkjaaGs
import Derived.RegionTactic
import Derived.Deep.Cut
import Derived.Deep.DeepCutAuto
import Derived.Deep.CutBlock
import Derived.WalkSpells
namespace Go.Proofs.Ytfmlbpnilblkjaa.HasC
open Go.ChangeShapes Go.WideShapes Go.ChangeAt Go.RowKit
open Go.Proofs.Ytfmlbpnilblkjaa.Mem Go.Proofs.Ytfmlbpnilblkjaa.Blk Go.Proofs.Ytfmlbpnilblkjaa.Cells Go.Proofs.Ytfmlbpnilblkjaa.GsC Go.Proofs.Ytfmlbpnilblkjaa.Stages

theorem sl_grow {w w' : World} {k : IntKind} {A : Option Addr} {n : Nat} {zs : List Int} (h : Sl w w.heap.size k A n zs) (hk : Grow w w') : Sl w' w'.heap.size k A n zs :=
  (Sl.kept h hk (Nat.le_refl _) fun _ _ => id).more hk.size
/-- The slice '.slice A n _' holds the numbers H 0, H 1 .. -/
def Has (w : World) (A : Option Addr) (n : Nat) (H : Nat → Int) : Prop := 0 < n → ∃ b o, A = some ⟨b, o, none⟩ ∧ ∀ j, j < n → w.cell? ⟨b, o + j, none⟩ = some (.int .i64 (H j))
/-- The block of n numbers, that may be written. -/
def Nr (w : World) (b n : Nat) (H : Nat → Int) : Prop := Row w b n fun s => .int .i64 (H s)
theorem madeI (w : World) (n : Nat) (hn : n ≤ 1024) : (Instr.makeSlice 23 (.int .i64 (n : Int)) (.int .i64 (n : Int))).run Try.prog w = .ok (.slice (some ⟨w.heap.size, 0, none⟩) n n) (w.alloc (.cells (madeCells #[.int .i64 0] n) 3)) := by
  obtain ⟨i, hi, hz, hs, hb⟩ := info_parts infoI
  have := run_make (P := Try.prog) w 23 3 i _ Try.underlying23 hi hz .i64 .i64 (n : Int) (n : Int) (by omega) (Int.le_refl _) (by rw [hb]; omega) (by omega)
  rw [hs, Int.toNat_natCast, Nat.mul_one] at this
  exact this

section
variable {w w' : World} {A : Option Addr} {n m c b d s : Nat} {H K : Nat → Int} {F : Nat → Prop}
theorem Has.grow (h : Has w A n H) (hg : Grow w w') : Has w' A n H := fun hn => by
  obtain ⟨b, o, rfl, hc⟩ := h hn
  exact ⟨b, o, rfl, fun j hj => hg.cellN (hc j hj) id⟩
theorem Has.same (h : Has w A n H) (e : ∀ s, s < n → K s = H s) : Has w A n K := fun hn => by
  obtain ⟨b, o, rfl, hc⟩ := h hn
  exact ⟨b, o, rfl, fun j hj => by rw [e j hj]; exact hc j hj⟩
theorem nr_made (w : World) (m : Nat) : Nr (w.alloc (.cells (madeCells #[.int .i64 0] m) 3)) w.heap.size m fun _ => 0 :=
  Row.of_blk (NBlk.made w 3 .i64 m) (by simp) fun i hi => by simp [hi]
theorem Nr.has (h : Nr w b n H) : Has w (some ⟨b, 0, none⟩) n H := fun _ => ⟨b, 0, rfl, fun j hj => by rw [Nat.zero_add]; exact Row.cell h hj⟩
theorem Nr.cell (h : Nr w b n H) {j : Nat} (hj : j < n) : w.cell? ⟨b, j, none⟩ = some (.int .i64 (H j)) := Row.cell h hj
theorem Nr.set (h : Nr w b n H) (s : Nat) (v : Int) (hk : ∀ q, q < n → K q = if q = s then v else H q) : Nr (w.setCell ⟨b, s, none⟩ (.int .i64 v)) b n K :=
  (Row.set h s _).congr fun i hi => by
    show _ = Value.int .i64 (K i)
    rw [hk i hi]
    by_cases e : i = s
    · rw [if_pos e, if_pos e]
    · rw [if_neg e, if_neg e]
theorem Nr.kept (h : Nr w b n H) (hk : Kept F w w') (hF : ¬ F b) : Nr w' b n H := Row.kept h hk hF
theorem Nr.grow (h : Nr w b n H) (hg : Grow w w') : Nr w' b n H := Row.kept h hg id
theorem Nr.same (h : Nr w b n H) (e : ∀ s, s < n → K s = H s) : Nr w b n K := Row.congr h fun i hi => by
  show Value.int .i64 (H i : Int) = Value.int .i64 (K i : Int)
  rw [e i hi]

end
/-- The first j numbers that f tells. -/
abbrev row (f : Nat → Int) (j : Nat) : List Int := (List.range j).map f
/-- Numbers of the call's own from place o on, that may be written. -/
def Nm (w : World) (b o n : Nat) (H : Nat → Int) : Prop := ∃ N f, Row w b N f ∧ o + n ≤ N ∧ ∀ j, j < n → f (o + j) = .int .i64 (H j)
section
variable {w w' : World} {A : Option Addr} {n m c b o d s q : Nat} {H K f : Nat → Int} {F : Nat → Prop} {x : Int}
theorem row_succ {j : Nat} (hx : f j = x) : row f j ++ [x] = row f (j + 1) := by
  unfold row
  rw [List.range_succ, List.map_append, ← hx]; rfl
theorem row_get {j i : Nat} (hi : i < j) : (row f j).getD i 0 = f i := by
  unfold row
  simp [List.getD_eq_getElem?_getD, hi]
theorem row_len {j : Nat} : (row f j).length = j := by simp [row]
theorem Nm.of_gs (h : Gs w A n c (row f n)) (hn : 0 < n) : ∃ b o, A = some ⟨b, o, none⟩ ∧ Nm w b o n f ∧ blk A c b := by
  have hle := h.le
  obtain ⟨b, o, g, rfl, hr, hg⟩ := h.row (by omega)
  exact ⟨b, o, rfl, ⟨_, g, hr, by omega, fun j hj => by rw [hg j hj, row_get hj]⟩, blk_some.2 ⟨by omega, rfl⟩⟩
theorem Nm.of_nr (h : Nr w b n H) : Nm w b 0 n H := ⟨n, _, h, by omega, fun j hj => by rw [Nat.zero_add]⟩
theorem Nm.has (h : Nm w b o n H) : Has w (some ⟨b, o, none⟩) n H := fun _ => by
  obtain ⟨N, f, hr, hn, hf⟩ := h
  exact ⟨b, o, rfl, fun j hj => by rw [hr.cell (by omega), hf j hj]⟩
theorem Nm.cell (h : Nm w b o n H) {j : Nat} (hj : j < n) : w.cell? ⟨b, o + j, none⟩ = some (.int .i64 (H j)) := by
  obtain ⟨N, f, hr, hn, hf⟩ := h
  rw [hr.cell (by omega), hf j hj]
theorem Nm.frozen (h : Nm w b o n H) (i : Nat) : w.frozen? ⟨b, i, none⟩ = false := by
  obtain ⟨N, f, hr, hn, hf⟩ := h
  exact hr.frozen i
theorem Nm.lt (h : Nm w b o n H) : b < w.heap.size := by
  obtain ⟨N, f, hr, hn, hf⟩ := h
  exact hr.lt
theorem Nm.kept (h : Nm w b o n H) (hk : Kept F w w') (hF : ¬ F b) : Nm w' b o n H := by
  obtain ⟨N, f, hr, hn, hf⟩ := h
  exact ⟨N, f, hr.kept hk hF, hn, hf⟩
theorem Nm.grow (h : Nm w b o n H) (hg : Grow w w') : Nm w' b o n H := h.kept hg id
theorem Nm.same (h : Nm w b o n H) (e : ∀ s, s < n → K s = H s) : Nm w b o n K := by
  obtain ⟨N, f, hr, hn, hf⟩ := h
  exact ⟨N, f, hr, hn, fun j hj => by rw [hf j hj, e j hj]⟩
theorem Nm.set (h : Nm w b o n H) (s : Nat) (v : Int) (hk : ∀ q, q < n → K q = if q = s then v else H q) : Nm (w.setCell ⟨b, o + s, none⟩ (.int .i64 v)) b o n K := by
  obtain ⟨N, f, hr, hn, hf⟩ := h
  refine ⟨N, _, hr.set (o + s) _, hn, fun j hj => ?_⟩
  rw [hk j hj]
  by_cases e : j = s
  · subst e; rw [if_pos rfl, if_pos rfl]
  · rw [if_neg (by omega), if_neg e, hf j hj]
theorem Has.sl (h : Has w A n H) : ∃ B, Sl w B .i64 A n (row H n) := by
  by_cases hn : 0 < n
  · obtain ⟨b, o, rfl, hc⟩ := h hn
    exact ⟨b + 1, row_len, fun _ => ⟨b, o, rfl, by omega, fun j hj => by rw [row_get hj]; exact hc j hj⟩⟩
  · exact ⟨0, row_len, fun h => absurd h hn⟩

end
section
variable {w : World} {base n m c B : Nat} {v : Value} {A : Option Addr} {zs ys : List Int}
/-- 'append(out, s...)', out a row of the call's own, s empty or not. -/
theorem append_sl (ty : TypeId) (hown : w.ownsRow base 3 1 v n (ys.map (Value.int .i64))) (hs : Sl w B .i64 A m zs) (hn : n + m ≤ 1000000) (hb : base ≤ w.heap.size) :
    ∃ v' w', (Builtin.append_ #[23, 23] ty #[v, .slice A m c]).run Try.prog w = .ok v' w' ∧ w'.ownsRow base 3 1 v' (n + m) ((ys ++ zs).map (Value.int .i64)) ∧ Below base w w' := by
  obtain ⟨i, hi, hz, hsz, hby⟩ := info_parts infoI
  rcases Nat.eq_zero_or_pos m with rfl | hm
  · have hz0 : zs = [] := List.eq_nil_of_length_eq_zero hs.len
    subst hz0
    refine ⟨v, w, ?_, by simpa using hown, Below.refl _ _⟩
    have hsrc : Src Try.prog i.size 23 (.slice A 0 c) 0 [] w := by
      cases A with
      | none => exact Src.ofNil w Try.underlying23 c
      | some a => exact Src.ofSlice w Try.underlying23 a 0 c [] (by simp) (fun j u h => by simp at h) (fun u h => by cases h)
    obtain ⟨A', c', rfl, hg, _⟩ := Gs.of_own hown
    have hle := hg.le
    cases A' <;> simp [Builtin.append_, run_underlying Try.underlying23, sizeOf, typeInfo, hi, hsrc.len, hle, hsrc.cells, storeCells]
  · obtain ⟨b, off, rfl, _, hc⟩ := hs.at_ hm
    obtain ⟨g, cap, w', hr, h2, h3, _, _⟩ := run_append_lies (P := Try.prog) w 23 ty base 3 i (.int .i64 0) 1 8 Try.underlying23 hi hz hsz hby rfl (by decide) v n _ hown ⟨b, off, none⟩ m c (zs.map (Value.int .i64)) (by rw [List.length_map, hs.len, Nat.mul_one])
      (fun j u hj => by
        have hjn : j < m := by
          have := (List.getElem?_eq_some_iff.1 hj).1
          rw [List.length_map, hs.len] at this
          exact this
        rw [add_off, hc j hjn, ← hj]
        simp [List.getD_eq_getElem?_getD, List.getElem?_eq_getElem (show j < zs.length by rw [hs.len]; exact hjn)])
      (fun u hu => by obtain ⟨x, _, rfl⟩ := List.mem_map.1 hu; rfl) hm (by unfold maxLen; omega) (by omega) hb _ rfl
    refine ⟨_, w', hr, by rw [List.map_append]; exact h2, ?_⟩
    exact (Below.refl _ _).grown h3 hb fun k hk => (hown.lt k hk).1
end

/-- A copy of numbers, the call's own. -/
def CloneP (w : World) (n : Nat) (zs : List Int) (e : Ending) (w' : World) : Prop :=
  ∃ A c, e = .returned (.slice A n c) ∧ Gs w' A n c zs ∧ Grow w w' ∧ ∀ k, blk A c k → w.heap.size ≤ k

section
variable {w w' : World}
theorem clone_gs {A : Option Addr} {n c : Nat} {zs : List Int} (h : Sl w w.heap.size .i64 A n zs) (hn : n ≤ 100000) :
    Calls Try.prog 23 #[.slice A n c] w (CloneP w n zs) := by
  have ke : ∀ w : World, (binOp .eql 23 (.slice A n c) (.slice none 0 0)).run Try.prog w = .ok (.bool A.isNone) w := fun w => Lib.run_eql_slice_nil (P := Try.prog) w 23 3 _ _ _ _ _ Try.underlying23
  cases A with
  | none =>
    have hn0 : n = 0 := by
      rcases Nat.eq_zero_or_pos n with e | e
      · exact e
      · obtain ⟨_, _, e', _⟩ := h.at_ e
        cases e'
    subst hn0
    have hz0 : zs = [] := List.eq_nil_of_length_eq_zero h.len
    subst hz0
    clear h
    go_enter Try.func23, Try.ntmps23
    go_wp2
    go_ret
    exact ⟨none, 0, rfl, Gs.nil _ _, Kept.refl _ _, fun k h => absurd h blk_zero⟩
  | some a =>
    have hown : (w.alloc (.cells #[] 3)).ownsRow w.heap.size 3 1 (.slice (some ⟨w.heap.size, 0, none⟩) 0 0) 0 (([] : List Int).map (Value.int .i64)) :=
      ⟨rfl, .inr ⟨_, 0, #[], rfl, Nat.le_refl _, heap_alloc_new w _, Nat.le_refl _, Nat.zero_le _, rfl, rfl⟩⟩
    have hs2 := sl_grow h ((Kept.refl _ w).alloc (.cells #[] 3))
    have HA := Lib.hid fun (ty : TypeId) => append_sl (c := c) ty hown hs2 (by omega) (by simp)
    have HGR : Hid (Grow w (w.alloc (.cells #[] 3))) := (Kept.refl _ w).alloc _
    clear hown hs2 h
    go_enter Try.func23, Try.ntmps23
    obtain ⟨v', w2, hr, ho, hb⟩ := HA.out 23
    have HR := Lib.hid hr
    have HO := Lib.hid ho
    have HBL := Lib.hid hb
    clear hr ho hb HA
    go_wp2_with (at_builtin; refine Lib.wpList_append_run _ rfl _ _ _ _ rfl _ _ rfl rfl _ _ HR.out ?_)
    go_ret
    have ho := HO.out
    rw [Nat.zero_add, List.nil_append] at ho
    obtain ⟨A', c', rfl, hg, hb⟩ := Gs.of_own ho
    exact ⟨A', c', rfl, hg, Kept.of_below ((Grow.below HGR.out).trans HBL.out), hb⟩


/-- A copy of the call's own, that may be written. -/
theorem clone_has {A : Option Addr} {n c : Nat} {H : Nat → Int} (h : Has w A n H) (h1 : 0 < n) (hn : n ≤ 100000) :
    Calls Try.prog 23 #[.slice A n c] w fun e w' => ∃ b o c', e = .returned (.slice (some ⟨b, o, none⟩) n c') ∧ Nm w' b o n H ∧ w.heap.size ≤ b ∧ Grow w w' := by
  obtain ⟨b, o, rfl, hc⟩ := h h1
  have hs : Sl w w.heap.size .i64 (some ⟨b, o, none⟩) n (row H n) := ⟨row_len, fun _ => ⟨b, o, rfl, block_lt_of_cell (hc 0 h1), fun j hj => by rw [row_get hj]; exact hc j hj⟩⟩
  refine (clone_gs hs hn).mono ?_
  rintro e w' ⟨A', c', rfl, hg, hk, hb⟩
  obtain ⟨b', o', rfl, hn', hb'⟩ := Nm.of_gs hg h1
  exact ⟨b', o', c', rfl, hn', hb _ hb', hk⟩
theorem equal_has {A A' : Option Addr} {n c c' : Nat} {H : Nat → Int} (hn : n ≤ 100000) (h : Has w A n H) (h' : Has w A' n H) :
    Calls Try.prog 20 #[.slice A n c, .slice A' n c'] w fun e w' => e = .returned (.bool true) ∧ Grow w w' := by
  have H0 := Lib.hid h
  have H1 := Lib.hid h'
  have hnz : (n : Int) ≤ 100000 := by omega
  clear h h'
  go_enter Try.func20, Try.ntmps20
  go_wp2
  go_loopg [13] n (fun gx i wr => ∃ j : Nat, j + gx = n ∧ i = .int .i64 (j : Int) ∧ Grow w wr)
  case atStart => exact ⟨0, by omega, rfl, Kept.refl _ _⟩
  case round =>
    obtain ⟨j, hg, rfl, hgr⟩ := hrel
    have HG := Lib.hid hg
    have HGR := Lib.hid hgr
    clear hg hgr
    by_cases hj : j < n
    · have hjz : (j : Int) < (n : Int) := by omega
      obtain ⟨b, o, rfl, hc⟩ := H0.out (by omega)
      obtain ⟨b', o', rfl, hc'⟩ := H1.out (by omega)
      have r1 := hc j hj
      have r2 := hc' j hj
      generalize H j = v at *
      have r1' := HGR.out.cellN r1 id
      have r2' := HGR.out.cellN r2 id
      have q1 := up_cell (F := fun _ => False) (w := wr.drew) r1' id
      have q2 := up_cell (F := fun _ => False) (w := wr.drew) r2' id
      clear hc hc' r1 r2 r1' r2'
      go_upto_region 6 with (fail)
      refine wp_region_stages Grow (kept_refl _) (kept_trans _) [] [0, 1, 2, 3, 4, 5, 6, 7, 8] (by kernel_rfl) (by kernel_rfl) ?_
      simp only [selSt, sel, List.map_cons, List.map_nil, List.getD_cons_succ, List.getD_cons_zero]
      refine st_nil fun K2 hK2 => ?_
      repeat (go_big_quiet_step (fail))
      refine wpQuiet_nil (hK2 _ ?_)
      clear hK2 K2 q1 q2
      go_wp2
      go_roundg (n - (j + 1))
      case measure => have := HG.out; omega
      case rel => exact ⟨j + 1, by omega, by go_num, HGR.out.drew⟩
    · have hjN : j = n := by have := HG.out; omega
      subst hjN
      go_wp2
      go_ret
      exact ⟨rfl, HGR.out⟩
end
end Go.Proofs.Ytfmlbpnilblkjaa.HasC
