/-
  Package hist: what Order sorts by (its closure), and the sort itself by the shelf's contract.
-/
import Derived.Test.YtjdlpknflhgkfaaHsLay
import Derived.Test.YtjdlpknflhgkfaaHsLook
namespace Go.Proofs.Ytjdlpknflhgkfaa.HsS
open Go.ChangeShapes Go.WideShapes Go.ChangeAt Go.RowKit Go.Shelf
open Go.Proofs.Ytjdlpknflhgkfaa.Mem Go.Proofs.Ytjdlpknflhgkfaa.Blk Go.Proofs.Ytjdlpknflhgkfaa.Cells Go.Proofs.Ytjdlpknflhgkfaa.MdM Go.Proofs.Ytjdlpknflhgkfaa.HsM Go.Proofs.Ytjdlpknflhgkfaa.HsE Go.Proofs.Ytjdlpknflhgkfaa.HsY Go.Proofs.Ytjdlpknflhgkfaa.Stages

/-! ### Worlds that are further in draws and have new blocks -/
def GB (w w' : World) : Prop := ∃ q os, w' = Sort.grow (w.drewN q) os
theorem gb_refl (w : World) : GB w w := ⟨0, #[], by rw [Sort.grow_empty]; rfl⟩
theorem gb_trans (a b c : World) (h : GB a b) (k : GB b c) : GB a c := by
  obtain ⟨q, os, rfl⟩ := h
  obtain ⟨q', os', rfl⟩ := k
  exact ⟨q + q', os ++ os', by show Sort.grow (Sort.grow ((a.drewN q).drewN q') os) os' = _; rw [Sort.grow_grow, World.drewN_drewN]⟩
theorem gb_drew (w : World) : GB w w.drew := ⟨1, #[], by rw [Sort.grow_empty]; rfl⟩
theorem gb_alloc (w : World) (o : Obj) : GB w (w.alloc o) := ⟨0, #[o], by rw [Sort.alloc_eq_grow]; rfl⟩
theorem gb_grow {w w' : World} (h : GB w w') : Grow w w' := by
  obtain ⟨q, os, rfl⟩ := h
  refine ⟨rfl, rfl, rfl, by simp [Sort.grow, World.drewN], fun k hk _ => ?_⟩
  show (w.heap ++ os)[k]? = w.heap[k]?
  rw [Array.getElem?_append_left hk]
instance gbInhabited (w : World) : Inhabited (Up GB w) := ⟨⟨w, gb_refl w⟩⟩
theorem gb_cell {w : World} {p : Addr} {v : Value} (h : w.cell? p = some v) (u : Up GB w) : u.u.cell? p = some v := (gb_grow u.h).cellN h id

/-! ### The library's comparisons -/
theorem compare_any (x y : Int) (w : World) : Calls Try.prog 35 #[.int .i64 x, .int .i64 y] w fun e w' => e = .returned (.int .i64 (Lib.compareInt x y)) ∧ w' = w := by
  unfold Lib.compareInt
  generalize hP : (fun (e : Ending) (w' : World) => e = .returned (.int .i64 (if x < y then -1 else if x > y then 1 else 0)) ∧ w' = w) = P
  have HP := Lib.hid hP
  clear hP
  go_enter Try.func35, Try.ntmps35
  by_cases h1 : x < y
  · have HE : Hid ((if x < y then (-1 : Int) else if x > y then 1 else 0) = -1) := if_pos h1
    go_wp2
    rw [← HP.out, HE.out]
    exact ⟨rfl, rfl⟩
  · by_cases h2 : y < x
    · have HE : Hid ((if x < y then (-1 : Int) else if x > y then 1 else 0) = 1) := by unfold Hid; rw [if_neg h1, if_pos h2]
      go_wp2
      rw [← HP.out, HE.out]
      exact ⟨rfl, rfl⟩
    · have HE : Hid ((if x < y then (-1 : Int) else if x > y then 1 else 0) = 0) := by unfold Hid; rw [if_neg h1, if_neg h2]
      go_wp2
      rw [← HP.out, HE.out]
      exact ⟨rfl, rfl⟩
def orI (x y : Int) : Int := if x = 0 then y else x
theorem or_any (x y : Int) (g c : Nat) (w : World) (h0 : w.cell? ⟨g, 0, none⟩ = some (.int .i64 x)) (h1 : w.cell? ⟨g, 1, none⟩ = some (.int .i64 y)) : Calls Try.prog 34 #[.slice (some ⟨g, 0, none⟩) 2 c] w fun e w' => e = .returned (.int .i64 (orI x y)) ∧ w' = w := by
  generalize hP : (fun (e : Ending) (w' : World) => e = .returned (.int .i64 (orI x y)) ∧ w' = w) = P
  have HP := Lib.hid hP
  clear hP
  go_enter Try.func34, Try.ntmps34
  go_wp2
  refine wp_loop_rounds 3 ?_
  by_cases hx : x = 0
  · have HE : Hid (orI x y = y) := if_pos hx
    subst hx
    by_cases hy : y = 0
    · subst hy
      rw [rounds_succ]
      go_wp2
      rw [rounds_succ]
      go_wp2
      rw [rounds_succ]
      go_wp2
      rw [← HP.out, HE.out]
      exact ⟨rfl, rfl⟩
    · have hy' : (y != 0) = true := by simpa using hy
      clear hy
      rw [rounds_succ]
      go_wp2
      rw [rounds_succ]
      go_wp2
      rw [← HP.out, HE.out]
      exact ⟨rfl, rfl⟩
  · have HE : Hid (orI x y = x) := if_neg hx
    have hx' : (x != 0) = true := by simpa using hx
    clear hx
    rw [rounds_succ]
    go_wp2
    rw [← HP.out, HE.out]
    exact ⟨rfl, rfl⟩

/-! ### The places of a history -/
abbrev Pl (n : Nat) : Type := { i : Nat // i < n }
def encPl {n : Nat} (x : Pl n) : Value := .int .i64 (x.1 : Int)
def cf (L : Nat → Ev) {n : Nat} (x y : Pl n) : Int := orI (Lib.compareInt (L x.1).s (L y.1).s) (Lib.compareInt x.1 y.1)
theorem cf_lt (L : Nat → Ev) {n : Nat} (x y : Pl n) : ltOf (cf L) x y = true ↔ lt L x.1 y.1 := by
  have c1 : ∀ x y : Int, x < y → Lib.compareInt x y = -1 := fun x y h => if_pos h
  have c2 : ∀ x : Int, Lib.compareInt x x = 0 := fun x => by unfold Lib.compareInt; rw [if_neg (by omega), if_neg (by omega)]
  have c3 : ∀ x y : Int, y < x → Lib.compareInt x y = 1 := fun x y h => by unfold Lib.compareInt; rw [if_neg (by omega), if_pos h]
  have o1 : ∀ y : Int, orI (-1) y = -1 := fun y => if_neg (by decide)
  have o2 : ∀ y : Int, orI 1 y = 1 := fun y => if_neg (by decide)
  have o3 : ∀ y : Int, orI 0 y = y := fun y => if_pos rfl
  unfold ltOf cf lt
  rw [decide_eq_true_iff]
  rcases Int.lt_trichotomy (L x.1).s (L y.1).s with h | h | h
  · rw [c1 _ _ h, o1]; omega
  · rw [h, c2, o3]
    rcases Nat.lt_trichotomy x.1 y.1 with h2 | h2 | h2
    · rw [c1 _ _ (by omega)]; omega
    · rw [h2, c2]; omega
    · rw [c3 _ _ (by omega)]; omega
  · rw [c3 _ _ h, o2]; omega
theorem cf_not (L : Nat → Ev) {n : Nat} (x y : Pl n) : ltOf (cf L) x y = false ↔ ¬ lt L x.1 y.1 := by rw [← cf_lt, Bool.not_eq_true]
theorem cf_swo (L : Nat → Ev) (n : Nat) : Sort.SWO (ltOf (cf L (n := n))) where
  irrefl x := (cf_not L x x).2 (lt_irr _)
  trans x y z h1 h2 := (cf_lt L x z).2 (lt_tr ((cf_lt L x y).1 h1) ((cf_lt L y z).1 h2))
  ntrans x y z h1 h2 := (cf_not L x z).2 fun h => by
    have h1 := (cf_not L x y).1 h1
    have h2 := (cf_not L y z).1 h2
    unfold lt at *
    omega

/-- The stamps of a history, and the box that the closure has it in. -/
structure Stp (W : World) (B : Nat) (A : Option Addr) (n c : Nat) (L : Nat → Ev) (b off : Nat) : Prop where
  box : W.cell? ⟨B, 0, none⟩ = some (.slice (some ⟨b, off, none⟩) n c)
  s : ∀ i, i < n → W.cell? ⟨b, off + i * 14 + 4 + 8, none⟩ = some (.int .i64 (L i).s)
section
variable {w w' W : World} {B n c b off : Nat} {A : Option Addr} {L : Nat → Ev} {F : Nat → Prop}
theorem Stp.kept (h : Stp W B A n c L b off) (hk : Kept F W w') (hB : ¬ F B) (hb : ¬ F b) : Stp w' B A n c L b off := ⟨hk.cellN h.box hB, fun i hi => hk.cellN (h.s i hi) hb⟩
set_option maxHeartbeats 4000000 in
set_option maxRecDepth 100000 in
theorem closure_any (h : Stp W B A n c L b off) (x y : Pl n) (hn : n ≤ 100000) : Calls Try.prog 33 #[encPl x, encPl y, .pointer (some ⟨B, 0, none⟩)] W fun e w' => e = .returned (.int .i64 (cf L x y)) ∧ GB W w' := by
  obtain ⟨i, hi⟩ := x
  obtain ⟨j, hj⟩ := y
  have hiz : (i : Int) < (n : Int) := by omega
  have hjz : (j : Int) < (n : Int) := by omega
  have hnz : (n : Int) ≤ 100000 := by omega
  have s0 := h.box
  have s1 := h.s i hi
  have s2 := h.s j hj
  unfold cf encPl
  dsimp only
  have C1 := Lib.hid fun w => compare_any (L i).s (L j).s w
  have C2 := Lib.hid fun w => compare_any (i : Int) (j : Int) w
  generalize hP : (fun (e : Ending) (w' : World) => e = .returned (.int .i64 (orI (Lib.compareInt (L i).s (L j).s) (Lib.compareInt (i : Int) (j : Int)))) ∧ GB W w') = P
  have HP := Lib.hid hP
  clear hP h
  go_enter Try.func33, Try.ntmps33
  go_upto_region 1 with (fail)
  have u0 := gb_cell (w := W.drew) s0
  have u1 := gb_cell (w := W.drew) s1
  have u2 := gb_cell (w := W.drew) s2
  refine wp_region_stages GB gb_refl gb_trans [([0, 1, 2, 3, 4, 5, 6, 7, 8, 9, 11, 12], 10), ([], 13), ([], 14), ([], 15)] [16] (by kernel_rfl) (by kernel_rfl) ?_
  simp only [selSt, sel, List.map_cons, List.map_nil, List.getD_cons_succ, List.getD_cons_zero]
  refine st_cons fun K1 hK1 => ?_
  repeat (go_big_quiet_step (fail))
  refine wpQuiet_nil ?_
  clear u0 u1 u2
  go_wp2_with (go_at_call 35; (with_reducible refine (C1.out _).mono ?_); rintro e wk ⟨rfl, rfl⟩)
  refine norm_up (hK1 _ _ (gb_refl _) (st_cons fun K2 hK2 => ?_))
  refine wpQuiet_nil ?_
  go_wp2_with (go_at_call 35; (with_reducible refine (C2.out _).mono ?_); rintro e wk ⟨rfl, rfl⟩)
  refine norm_up (hK2 _ _ (gb_refl _) (st_cons fun K3 hK3 => ?_))
  refine wpQuiet_nil ?_
  generalize Lib.compareInt (L i).s (L j).s = p1 at *
  generalize Lib.compareInt (i : Int) (j : Int) = p2 at *
  go_wp2
  have hb : Blk (W.alloc (.cells #[.int .i64 p1, .int .i64 p2] 3)).drew W.heap.size 3 [.int .i64 p1, .int .i64 p2] := Blk.new W _ _
  have CO := Lib.hid (or_any p1 p2 _ 2 _ (hb.cell 0) (hb.cell 1))
  have HGB : Hid (GB W (W.drew.alloc (.cells #[.int .i64 p1, .int .i64 p2] 3))) := gb_trans _ _ _ (gb_drew W) (gb_alloc _ _)
  refine norm_up (hK3 _ _ (gb_alloc _ _) (st_cons fun K4 hK4 => ?_))
  refine wpQuiet_nil ?_
  clear hb s0 s1 s2 C1 C2
  go_wp2_with (go_at_call 34; (with_reducible refine CO.out.mono ?_); rintro e wk ⟨rfl, rfl⟩)
  refine norm_up (hK4 _ _ (gb_refl _) (st_nil fun K5 hK5 => ?_))
  generalize orI p1 p2 = r at *
  repeat (go_big_quiet_step (fail))
  refine wpQuiet_nil (hK5 _ ?_)
  clear hK1 hK2 hK3 hK4 hK5
  go_wp2
  rw [← HP.out]
  exact ⟨rfl, HGB.out⟩

/-! ### The sort -/
variable {α : Type} [Inhabited α]
theorem sorted_kept (enc : α → Value) (w : World) (blk off m : Nat) (dk : Array α) (os : Array Obj) : Kept (fun k => k = blk) w (sortWorld enc w blk off m dk os) := by
  refine ⟨rfl, rfl, rfl, by simp [sortWorld, Sort.grow, Sort.putRow, Sort.mapBlock, Sort.ahead], fun k hk hne => ?_⟩
  have hne : k ≠ blk := hne
  show ((w.heap.modify blk (Sort.onCells _)) ++ os)[k]? = w.heap[k]?
  rw [Array.getElem?_append_left (by simpa using hk), Array.getElem?_modify, if_neg (fun e => hne e.symm)]
end
theorem perm_all {α : Type} [Inhabited α] {d d' : Array α} (h : Sort.PermIn 0 d.size d d') : d'.toList.Perm d.toList := by
  obtain ⟨h1, _, h3⟩ := h
  rw [show d'.extract 0 d.size = d' by rw [← h1]; exact Array.extract_size, Array.extract_size] at h3
  exact h3
/-- The row of places holds, behind the sort, an order of them. -/
def SortP (L : Nat → Ev) (l : List Nat) (blk o : Nat) (w : World) (e : Ending) (w' : World) : Prop :=
  e = .returned (.tuple #[]) ∧ ∃ l' : List Nat, l'.length = l.length ∧ (∀ i, i ∈ l' ↔ i ∈ l) ∧ l'.Pairwise (lt L) ∧ (∀ j, j < l.length → w'.cell? ⟨blk, o + j, none⟩ = some (.int .i64 (l'.getD j 0 : Nat))) ∧ Kept (fun k => k = blk) w w'
section
variable {w w' : World} {B n c b off blk o cap : Nat} {L : Nat → Ev} {l : List Nat}
theorem sort_any (hn : n ≤ 100000) (h : Stp w B (some ⟨b, off, none⟩) n c L b off) (hl : ∀ i, i ∈ l → i < n) (hnd : l.Nodup) (h0 : 0 < l.length) (hc : ∀ j, j < l.length → w.cell? ⟨blk, o + j, none⟩ = some (.int .i64 (l.getD j 0 : Nat))) (hf : ∀ j, w.frozen? ⟨blk, j, none⟩ = false) (hB : B ≠ blk) (hb : b ≠ blk) (hln : l.length ≤ 100000) :
    Calls Try.prog 32 #[.slice (some ⟨blk, o, none⟩) l.length cap, .func (.func 33) #[] #[.pointer (some ⟨B, 0, none⟩)]] w (SortP L l blk o w) := by
  have hn0 : 0 < n := by
    have := hl _ (List.getElem_mem h0)
    omega
  haveI : Inhabited (Pl n) := ⟨⟨0, hn0⟩⟩
  let d : Array (Pl n) := (l.attach.map fun x => (⟨x.1, hl _ x.2⟩ : Pl n)).toArray
  have hds : d.size = l.length := by simp [d]
  have hdl : d.toList.map (fun x => x.1) = l := by
    simp [d]
  have hdg : ∀ j, j < l.length → (d[j]!).1 = l.getD j 0 := fun j hj => by
    have h1 : (d.toList.map fun x => x.1)[j]? = l[j]? := by rw [hdl]
    rw [List.getElem?_map, List.getElem?_eq_getElem hj, List.getElem?_eq_getElem (by simpa [hds] using hj)] at h1
    simp only [Option.map_some, Option.some.injEq] at h1
    rw [getElem!_pos d j (by omega), List.getD_eq_getElem?_getD, List.getElem?_eq_getElem hj]
    simpa using h1
  have eg : ∀ args w, (callFunc 33 args).run Try.prog w = .ok (.enter 33 args) w := enters_of Try.func33 (by kernel_rfl) rfl
  have hblk : blk < w.heap.size := block_lt_of_cell (hc 0 h0)
  have hH : Sort.Holds (encPl (n := n)) w blk o d := fun j hj => by
    have hj : j < l.length := by omega
    refine ⟨?_, hf _⟩
    rw [hc j hj]
    unfold encPl
    rw [hdg j hj]
  have hcmp : CmpLays1 Try.prog 33 #[.pointer (some ⟨B, 0, none⟩)] (encPl (n := n)) (cf L (n := n)) blk o d.size w := fun m os dk _ x y => by
    have hs := h.kept (sorted_kept (encPl (n := n)) w blk o m dk os) hB hb
    exact (closure_any (A := none) ⟨hs.box, hs.s⟩ x y hn).mono fun e w' ⟨he, hw⟩ => ⟨he, hw⟩
  have hcon := Any.slices_SortFunc sortInt (encPl (n := n)) (fun _ => rfl) (cf L (n := n)) (cf_swo L n) 33 #[.pointer (some ⟨B, 0, none⟩)] blk o cap d w eg hcmp hH hblk (by omega)
  rw [hds] at hcon
  refine Calls.mono hcon ?_
  rintro e w' ⟨he, d', m, os, hp, hs, rfl⟩
  rw [← hds] at hp
  have hd's : d'.size = l.length := hp.1.trans hds
  have hperm := (perm_all hp).map fun x : Pl n => x.1
  rw [hdl] at hperm
  have hget : ∀ j, j < l.length → (d'[j]!).1 = (d'.toList.map fun x : Pl n => x.1).getD j 0 := fun j hj => by
    rw [getElem!_pos d' j (by omega), List.getD_eq_getElem?_getD, List.getElem?_map, List.getElem?_eq_getElem (by simpa [hd's] using hj)]
    simp
  refine ⟨he, d'.toList.map fun x => x.1, by simp [hd's], fun i => hperm.mem_iff, ?_, fun j hj => ?_, sorted_kept (encPl (n := n)) w blk o m d' os⟩
  · rw [List.pairwise_iff_getElem]
    intro i j hi hj hij
    have hi' : i < d'.size := by simpa using hi
    have hj' : j < d'.size := by simpa using hj
    have h1 := (cf_not L _ _).1 (hs i j (Nat.zero_le _) hij (by omega))
    have hne : (d'.toList.map fun x : Pl n => x.1)[i] ≠ (d'.toList.map fun x : Pl n => x.1)[j] := fun e => by
      have := (List.getElem_inj (hperm.nodup_iff.2 hnd)).1 e
      omega
    rw [getElem!_pos d' i hi', getElem!_pos d' j hj'] at h1
    rcases lt_tot (L := L) hne with h2 | h2
    · exact h2
    · exact absurd (by simpa using h2) h1
  · have hh := (holds_sortWorld (encPl (n := n)) w blk o m d d' os hblk hH (by omega)) j (by omega)
    rw [hh.1]
    unfold encPl
    rw [hget j hj]
end
theorem sort_none (p : Option Addr) (cap : Nat) (fv : Value) (w : World) : Calls Try.prog 32 #[.slice p 0 cap, fv] w fun e w' => e = .returned (.tuple #[]) ∧ w' = w :=
  AnyF.slices_SortFunc_none (P := Try.prog) (ρ := sortRen) { sortInt with } p cap fv w
#print axioms sort_any
end Go.Proofs.Ytjdlpknflhgkfaa.HsS
