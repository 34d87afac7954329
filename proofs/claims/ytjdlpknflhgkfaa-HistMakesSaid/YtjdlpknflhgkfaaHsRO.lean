/-
  The document's Order (lavaboref13): each place is put in behind those whose stamps are not above its own.
-/
import Derived.Test.YtjdlpknflhgkfaaHsOrder
import Derived.Deep.AppendSrc
import Derived.Lib.AppendZeros
namespace Go.Proofs.Ytjdlpknflhgkfaa.HsRO
open Go.ChangeShapes Go.WideShapes Go.ChangeAt Go.RowKit
open Go.Proofs.Ytjdlpknflhgkfaa.Mem Go.Proofs.Ytjdlpknflhgkfaa.Blk Go.Proofs.Ytjdlpknflhgkfaa.Cells Go.Proofs.Ytjdlpknflhgkfaa.MdM Go.Proofs.Ytjdlpknflhgkfaa.HsM Go.Proofs.Ytjdlpknflhgkfaa.HsE Go.Proofs.Ytjdlpknflhgkfaa.HsO Go.Proofs.Ytjdlpknflhgkfaa.Stages
open Go.Proofs.Ytjdlpknflhgkfaa.GsC (infoI)

section
variable {w : World} {base n : Nat} {v : Value} {zs ys : List Int}
/-- What a row of the call's own is. -/
theorem own_form (h : w.ownsRow base 3 1 v n (zs.map (Value.int .i64))) : ∃ A c, v = .slice A n c ∧ Sl w w.heap.size .i64 A n zs ∧ n ≤ c ∧ c ≤ maxLen ∧ ∀ x, A = some x → base ≤ x.block := by
  obtain ⟨A, c, rfl, hs⟩ := Sl.of_row1 h
  refine ⟨A, c, rfl, hs, ?_⟩
  rcases h.2 with ⟨e, h0⟩ | ⟨g, cap, cur, e, hb, _, h1, h2, _⟩
  · injection e with e1 e2 e3
    subst e1 e3
    exact ⟨by omega, Nat.zero_le _, fun x hx => by cases hx⟩
  · injection e with e1 e2 e3
    subst e1 e3
    exact ⟨h1, h2, fun x hx => by injection hx with hx; subst hx; exact hb⟩
theorem append_sl {m c B : Nat} {A : Option Addr} (ty : TypeId) (hown : w.ownsRow base 3 1 v n (ys.map (Value.int .i64))) (hs : Sl w B .i64 A m zs) (hn : n + m ≤ 1000000) (hb : base ≤ w.heap.size) :
    ∃ v' w', (Builtin.append_ #[48, 48] ty #[v, .slice A m c]).run Try.prog w = .ok v' w' ∧ w'.ownsRow base 3 1 v' (n + m) ((ys ++ zs).map (Value.int .i64)) ∧ Below base w w' := by
  obtain ⟨i, hi, hz, hsz, hby⟩ := info_parts infoI
  rcases Nat.eq_zero_or_pos m with rfl | hm
  · have hz0 : zs = [] := List.eq_nil_of_length_eq_zero hs.len
    subst hz0
    refine ⟨v, w, ?_, by simpa using hown, Below.refl _ _⟩
    have hsrc : Src Try.prog i.size 48 (.slice A 0 c) 0 [] w := by
      cases A with
      | none => exact Src.ofNil w Try.underlying48 c
      | some a => exact Src.ofSlice w Try.underlying48 a 0 c [] (by simp) (fun j u h => by simp at h) (fun u h => by cases h)
    obtain ⟨A', c', rfl, _, hle, _⟩ := own_form hown
    cases A' <;> simp [Builtin.append_, run_underlying Try.underlying48, sizeOf, typeInfo, hi, hsrc.len, hle, hsrc.cells, storeCells]
  · obtain ⟨b, off, rfl, _, hc⟩ := hs.at_ hm
    obtain ⟨g, cap, w', hr, h2, h3, _, _⟩ := run_append_lies (P := Try.prog) w 48 ty base 3 i (.int .i64 0) 1 8 Try.underlying48 hi hz hsz hby rfl (by decide) v n _ hown ⟨b, off, none⟩ m c (zs.map (Value.int .i64)) (by rw [List.length_map, hs.len, Nat.mul_one])
      (fun j u hj => by
        have hjn : j < m := by
          have := (List.getElem?_eq_some_iff.1 hj).1
          rw [List.length_map, hs.len] at this
          exact this
        have e : (⟨b, off, none⟩ : Addr).add j = ⟨b, off + j, none⟩ := by unfold Addr.add; split <;> simp_all
        rw [e, hc j hjn, ← hj]
        simp [List.getD_eq_getElem?_getD, List.getElem?_eq_getElem (show j < zs.length by rw [hs.len]; exact hjn)])
      (fun u hu => by obtain ⟨x, _, rfl⟩ := List.mem_map.1 hu; rfl) hm (by unfold maxLen; omega) (by omega) hb _ rfl
    refine ⟨_, w', hr, by rw [List.map_append]; exact h2, ?_⟩
    exact (Below.refl _ _).grown h3 hb fun k hk => (hown.lt k hk).1
end

theorem sl_one (w1 : World) (k : Int) : Sl (w1.alloc (.cells #[.int .i64 k] 3)) (w1.heap.size + 1) .i64 (some ⟨w1.heap.size, 0, none⟩) 1 [k] := Sl.new w1 .i64 3 (0, 0) [k]
/-- One more is put in. -/
theorem ord_put {L : Nat → Ev} {j k : Nat} {l : List Nat} (h : Ord L j l) (hs : 0 < (L j).s) (hk : k ≤ l.length) (hb : ∀ t, k ≤ t → t < l.length → (L j).s < (L (l.getD t 0)).s) (ha : k = 0 ∨ (L (l.getD (k - 1) 0)).s ≤ (L j).s) : Ord L (j + 1) (l.take k ++ [j] ++ l.drop k) := by
  have hmem : ∀ i, i ∈ l.take k ++ [j] ++ l.drop k ↔ i ∈ l ∨ i = j := fun i => by
    rw [List.mem_append, List.mem_append, List.mem_singleton]
    have : i ∈ l ↔ i ∈ l.take k ∨ i ∈ l.drop k := by rw [← List.mem_append, List.take_append_drop]
    rw [this]
    constructor
    · rintro ((h | h) | h)
      · exact .inl (.inl h)
      · exact .inr h
      · exact .inl (.inr h)
    · rintro ((h | h) | h)
      · exact .inl (.inl h)
      · exact .inr h
      · exact .inl (.inr h)
  have hget : ∀ t (ht : t < l.length), l.getD t 0 = l[t] := fun t ht => by rw [List.getD_eq_getElem?_getD, List.getElem?_eq_getElem ht]; rfl
  have hpw := List.pairwise_iff_getElem.1 h.2
  have htake : ∀ a, a ∈ l.take k → lt L a j := fun a hm => by
    obtain ⟨t, ht, rfl⟩ := List.getElem_of_mem hm
    have ht2 : t < k ∧ t < l.length := by rw [List.length_take] at ht; omega
    rw [List.getElem_take]
    have hlj := (ord_lt h (List.getElem_mem ht2.2)).1
    rcases ha with e | e
    · omega
    · rw [hget _ (by omega)] at e
      have : (L l[t]).s ≤ (L l[k - 1]).s := by
        by_cases e2 : t = k - 1
        · subst e2; exact Int.le_refl _
        · have := hpw t (k - 1) ht2.2 (by omega) (by omega)
          unfold lt at this
          omega
      unfold lt
      omega
  have hdrop : ∀ b, b ∈ l.drop k → lt L j b := fun b hm => by
    obtain ⟨t, ht, rfl⟩ := List.getElem_of_mem hm
    rw [List.length_drop] at ht
    rw [List.getElem_drop]
    have := hb (k + t) (by omega) (by omega)
    rw [hget _ (by omega)] at this
    exact .inl this
  refine ⟨fun i => ?_, ?_⟩
  · rw [hmem, h.1 i]
    constructor
    · rintro (⟨h1, h2⟩ | rfl)
      · exact ⟨by omega, h2⟩
      · exact ⟨by omega, hs⟩
    · rintro ⟨h1, h2⟩
      by_cases e : i = j
      · exact .inr e
      · exact .inl ⟨by omega, h2⟩
  · have hsplit : (l.take k ++ l.drop k).Pairwise (lt L) := by rw [List.take_append_drop]; exact h.2
    rw [List.pairwise_append] at hsplit
    rw [List.append_assoc, List.pairwise_append]
    refine ⟨hsplit.1, ?_, ?_⟩
    · rw [List.singleton_append, List.pairwise_cons]
      exact ⟨hdrop, hsplit.2.1⟩
    · intro a ha' b hb'
      rw [List.singleton_append, List.mem_cons] at hb'
      rcases hb' with rfl | hb'
      · exact htake a ha'
      · exact hsplit.2.2 a ha' b hb'
theorem ord_skip {L : Nat → Ev} {j : Nat} {l : List Nat} (h : Ord L j l) (hs : ¬ 0 < (L j).s) : Ord L (j + 1) l := ⟨fun i => by
  rw [h.1 i]
  constructor
  · rintro ⟨h1, h2⟩
    exact ⟨by omega, h2⟩
  · rintro ⟨h1, h2⟩
    refine ⟨?_, h2⟩
    by_cases e : i = j
    · subst e; exact absurd h2 hs
    · omega, h.2⟩
theorem put_len {k j : Nat} {l : List Nat} (hk : k ≤ l.length) : (l.take k ++ [j] ++ l.drop k).length = l.length + 1 := by
  rw [List.length_append, List.length_append, List.length_take, List.length_drop]
  simp
  omega
/-- What the loop has. -/
def ROLoop (L : Nat → Ev) (n : Nat) (w : World) (gx : Nat) (v3 v4 : Value) (wr : World) : Prop :=
  ∃ (j : Nat) (l : List Nat) (A : Option Addr) (c : Nat), j + gx = n ∧ v4 = .int .i64 (j : Int) ∧ v3 = .slice A l.length c ∧ Ord L j l ∧ Sl wr wr.heap.size .i64 A l.length (nums l) ∧ (l.length ≤ c ∧ c ≤ maxLen) ∧ (∀ x, A = some x → w.heap.size ≤ x.block) ∧ (l = [] → A = none ∧ c = 0) ∧ Grow w wr
section
variable {w w' : World} {X : Nat → Prop} {A : Option Addr} {n : Nat} {L : Nat → Ev}
theorem sl_grow' {w w' : World} {k : IntKind} {A : Option Addr} {n : Nat} {zs : List Int} (h : Sl w w.heap.size k A n zs) (hk : Grow w w') : Sl w' w'.heap.size k A n zs := (Sl.kept h hk (Nat.le_refl _) fun _ _ x => x).more hk.size
/-- What the three appends make, from a world on. -/
theorem three_app {wz : World} {A3 : Option Addr} {c3 k j B : Nat} {l : List Nat} (hs : Sl wz B .i64 A3 l.length (nums l)) (hB : B ≤ wz.heap.size) (hl : l.length ≤ 100000) (hk : k ≤ l.length) (A4 : Option Addr) (h4 : Sl wz B .i64 A4 (l.length - k) ((nums l).drop k)) :
    ∃ v1 w1, (Builtin.append_ #[48, 48] 48 #[.slice (some ⟨wz.heap.size, 0, none⟩) 0 0, .slice A3 k c3]).run Try.prog (wz.alloc (.cells #[] 3)) = .ok v1 w1 ∧ Grow wz w1 ∧
      ∃ v2 w2, (Builtin.append_ #[48, 48] 48 #[v1, .slice (some ⟨w1.heap.size, 0, none⟩) 1 1]).run Try.prog (w1.alloc (.cells #[.int .i64 (j : Int)] 3)).drew = .ok v2 w2 ∧ Kept (wz.heap.size ≤ ·) (w1.alloc (.cells #[.int .i64 (j : Int)] 3)).drew w2 ∧ Grow wz w2 ∧
        ∃ A5 c5 w3, (Builtin.append_ #[48, 48] 48 #[v2, .slice A4 (l.length - k) (c3 - k)]).run Try.prog w2 = .ok (.slice A5 (l.length + 1) c5) w3 ∧ Kept (wz.heap.size ≤ ·) w2 w3 ∧ Grow wz w3 ∧
          Sl w3 w3.heap.size .i64 A5 (l.length + 1) (nums (l.take k ++ [j] ++ l.drop k)) ∧ (l.length + 1 ≤ c5 ∧ c5 ≤ maxLen) ∧ ∀ x, A5 = some x → wz.heap.size ≤ x.block := by
  have hga : Grow wz (wz.alloc (.cells #[] 3)) := (Kept.refl _ _).alloc _
  have hown := World.ownsRow_lit (base := wz.heap.size) (e := 3) (size := 1) wz #[] 0 (Nat.le_refl _) (by unfold maxLen; omega) rfl
  have hln : (nums l).length = l.length := nums_len l
  obtain ⟨v1, w1, hr1, ho1, hb1⟩ := append_sl (m := k) (A := A3) (B := B) (c := c3) (ys := []) 48 hown (Sl.kept (Sl.take hs (m := k) hk) hga hB (fun _ _ x => x)) (by omega) (by simp)
  have HG1 : Grow wz w1 := Kept.of_below (hga.below.trans hb1)
  refine ⟨v1, w1, hr1, HG1, ?_⟩
  have HGA : Grow wz (w1.alloc (.cells #[.int .i64 (j : Int)] 3)).drew := (HG1.alloc _).drew
  have ho1' : (w1.alloc (.cells #[.int .i64 (j : Int)] 3)).drew.ownsRow wz.heap.size 3 1 v1 (0 + k) (([] ++ (nums l).take k).map (Value.int .i64)) := World.ownsRow.alloc ho1 (.cells #[.int .i64 (j : Int)] 3)
  have hs1 : Sl (w1.alloc (.cells #[.int .i64 (j : Int)] 3)).drew (w1.heap.size + 1) .i64 (some ⟨w1.heap.size, 0, none⟩) 1 [(j : Int)] := sl_one w1 j
  obtain ⟨v2, w2, hr2, ho2, hb2⟩ := append_sl (m := 1) (zs := [(j : Int)]) (A := some ⟨w1.heap.size, 0, none⟩) (B := w1.heap.size + 1) (c := 1) 48 ho1' hs1 (by omega) HGA.size
  have HG2 : Grow wz w2 := Kept.of_below (HGA.below.trans hb2)
  have kb : ∀ {a b : World}, Below wz.heap.size a b → Kept (wz.heap.size ≤ ·) a b := fun {a b} h => ⟨h.os, h.tape, h.output, h.size, fun k hk hne => h.block k (by omega)⟩
  refine ⟨v2, w2, hr2, kb hb2, HG2, ?_⟩
  obtain ⟨v3, w3, hr3, ho3, hb3⟩ := append_sl (m := l.length - k) (A := A4) (B := B) (c := c3 - k) 48 ho2 (Sl.kept h4 HG2 hB (fun _ _ x => x)) (by omega) HG2.size
  have HG3 : Grow wz w3 := Kept.of_below (HG2.below.trans hb3)
  obtain ⟨A5, c5, rfl, hs5, hc5, hm5, hx5⟩ := own_form ho3
  have hlen : 0 + k + 1 + (l.length - k) = l.length + 1 := by omega
  have hz : [] ++ (nums l).take k ++ [(j : Int)] ++ (nums l).drop k = nums (l.take k ++ [j] ++ l.drop k) := by
    unfold nums
    rw [List.nil_append, List.map_append, List.map_append, List.map_take, List.map_drop]
    rfl
  rw [hlen] at hr3 hs5 hc5
  rw [hz] at hs5
  exact ⟨A5, c5, w3, hr3, kb hb3, HG3, hs5, ⟨hc5, hm5⟩, hx5⟩
set_option maxHeartbeats 16000000 in
set_option maxRecDepth 100000 in
theorem rorder_any (h : EvsAt w X A n L) (hn : n ≤ 100000) (c : Nat) : Calls Try.prog 17 #[.slice A n c] w (OrdP L n w) := by
  have hnz : (n : Int) ≤ 100000 := by omega
  have HE := Lib.hid h
  clear h
  go_enter Try.func17, Try.ntmps17
  go_wp2
  go_loopg [3, 4] n (ROLoop L n w)
  case atStart => exact ⟨0, [], none, 0, by omega, rfl, rfl, ⟨fun i => Iff.intro (fun h => by cases h) (fun h => by omega), List.Pairwise.nil⟩, Sl.nil _ _ _ _, ⟨Nat.le_refl _, Nat.zero_le _⟩, ⟨(fun x h => by cases h), (fun _ => ⟨rfl, rfl⟩), Kept.refl _ _⟩⟩
  case round =>
    obtain ⟨j, l, A3, c3, hg, rfl, rfl, ho, hsl, hcc, hnew, hnil, hgr⟩ := hrel
    have HG := Lib.hid hg
    have HO := Lib.hid ho
    have HSL := Lib.hid hsl
    have HCC := Lib.hid hcc
    have HNW := Lib.hid hnew
    have HNIL := Lib.hid hnil
    have HGR := Lib.hid hgr
    clear hg ho hsl hcc hnew hnil hgr
    by_cases hj : j < n
    · have hjz : (j : Int) < (n : Int) := by omega
      have HJ := Lib.hid hj
      obtain ⟨b, off, rfl, hall⟩ := HE.out (by omega)
      have HST : Hid (∀ i, i < n → wr.cell? ⟨b, off + i * 14 + 12, none⟩ = some (.int .i64 (L i).s)) := fun i hi => by
        obtain ⟨D, dl, dc, A', al, ac, hc, hd⟩ := hall i hi
        exact HGR.out.cellN (hc 12 _ rfl) id
      have c12 := HST.out j hj
      clear hall hj
      by_cases hs : ¬ 0 < (L j).s
      · have HSK := Lib.hid (ord_skip HO.out hs)
        have hs' : (L j).s ≤ 0 := by omega
        clear hs
        go_wp2
        go_roundg (gk - 1)
        case measure => have := HG.out; have := HJ.out; omega
        case rel => exact ⟨j + 1, l, A3, c3, by have := HG.out; have := HJ.out; omega, by go_num, rfl, HSK.out, HSL.out, HCC.out, HNW.out, HNIL.out, HGR.out⟩
      · have HS : Hid (0 < (L j).s) := Classical.byContradiction hs
        have hs' : ¬ (L j).s ≤ 0 := by have := HS.out; omega
        have hlz : (l.length : Int) ≤ 100000 := by have := ord_len HO.out; have := HJ.out; omega
        clear hs
        go_upto_region 7 with (fail)
        obtain ⟨wo, hwo⟩ : ∃ wo, wo = wr := ⟨_, rfl⟩
        subst hwo
        obtain ⟨gO, hgO⟩ : ∃ g, g = gk := ⟨_, rfl⟩
        subst hgO
        by_cases hl : l = []
        · subst hl
          obtain ⟨rfl, rfl⟩ := HNIL.out rfl
          go_loopg [5] ([] : List Nat).length (fun gx v wy => ∃ k : Nat, k = gx ∧ v = .int .i64 (k : Int) ∧ k ≤ ([] : List Nat).length ∧ (∀ t, k ≤ t → t < ([] : List Nat).length → (L j).s < (L (([] : List Nat).getD t 0)).s) ∧ Grow wo wy)
          case atStart => exact ⟨_, rfl, rfl, Nat.le_refl _, fun t h1 h2 => by omega, Kept.refl _ _⟩
          case round =>
            obtain ⟨k, hgk, rfl, hkl, hab, hgz⟩ := hrel
            have HGK := Lib.hid hgk
            have HKL := Lib.hid hkl
            have HAB := Lib.hid hab
            have HGZ := Lib.hid hgz
            clear hgk hab hgz
            obtain rfl : k = 0 := by simpa using hkl
            have HBE : Hid (0 = 0 ∨ (L (([] : List Nat).getD (0 - 1) 0)).s ≤ (L j).s) := .inl rfl
            clear hkl
            go_upto_region 7 with (fail)
            refine wp_region_stages Grow (kept_refl _) (kept_trans _) [] [0, 1, 2, 3, 4, 5, 6, 7, 8, 9, 10, 11, 12, 13, 14, 15, 16, 17, 18] (by kernel_rfl) (by kernel_rfl) ?_
            simp only [selSt, sel, List.map_cons, List.map_nil, List.getD_cons_succ, List.getD_cons_zero]
            refine st_nil fun K2 hK2 => ?_
            repeat (go_big_quiet_step (fail))
            refine wpQuiet_nil (hK2 _ ?_)
            clear hK2 K2
            go_upto_region 9 with (fail)
            have HW1 : Hid (Grow wo wr.drew) := HGZ.out.drew
            have HW0 : Hid (Grow w wr.drew) := HGR.out.trans HW1.out
            have HP := Lib.hid (ord_put HO.out HS.out HKL.out HAB.out HBE.out)
            have HSLW := Lib.hid (sl_grow' HSL.out HW1.out)
            obtain ⟨v1, w1, hr1, hg1, v2, w2, hr2, hk2, hg2, A5, c5, w3, hr3, hk3, hg3, hs5, hc5, hx5⟩ := three_app (c3 := 0) (wz := wr.drew) (k := 0) (j := j) HSLW.out (Nat.le_refl _) (by simp) (Nat.zero_le _) none (Sl.nil _ _ _ _)
            have HR1 := Lib.hid hr1
            have HR2 := Lib.hid hr2
            have HR3 := Lib.hid hr3
            have HK2 := Lib.hid hk2
            have HK3 := Lib.hid hk3
            have HG1 := Lib.hid hg1
            have HG3 := Lib.hid hg3
            have HS5 := Lib.hid hs5
            have HC5 := Lib.hid hc5
            have HX5 := Lib.hid hx5
            clear hr1 hr2 hr3 hk2 hk3 hg1 hg2 hg3 hs5 hc5 hx5
            go_upto_region 10 with (at_builtin; refine Lib.wpList_append_run _ rfl _ _ _ _ rfl _ _ rfl rfl _ _ HR1.out ?_)
            refine wp_region_stages (Kept (wr.drew.heap.size ≤ ·)) (kept_refl _) (kept_trans _) [([0, 1, 4, 5, 6], 2), ([], 3), ([], 7)] [8] (by kernel_rfl) (by kernel_rfl) ?_
            simp only [selSt, sel, List.map_cons, List.map_nil, List.getD_cons_succ, List.getD_cons_zero]
            refine st_cons fun K1 hK1 => ?_
            repeat (go_big_quiet_step (fail))
            refine wpQuiet_nil ?_
            go_wp2
            refine norm_up (hK1 _ _ ((Kept.refl _ _).alloc _) (st_cons fun K2 hK2 => wpQuiet_nil ?_))
            clear hK1 K1
            go_wp2_with (at_builtin; refine Lib.wpList_append_run _ rfl _ _ _ _ rfl _ _ rfl rfl _ _ HR2.out ?_)
            refine norm_up (hK2 _ _ HK2.out (st_cons fun K3 hK3 => wpQuiet_nil ?_))
            clear hK2 K2
            go_wp2_with (at_builtin; refine Lib.wpList_append_run _ rfl _ _ _ _ rfl _ _ rfl rfl _ _ HR3.out ?_)
            refine norm_up (hK3 _ _ HK3.out (st_nil fun K4 hK4 => ?_))
            clear hK3 K3
            repeat (go_big_quiet_step (fail))
            refine wpQuiet_nil (hK4 _ ?_)
            clear hK4 K4
            go_wp2
            go_roundg (n - (j + 1))
            case measure => have := HG.out; have := HJ.out; omega
            case rel =>
              have hpl := put_len (j := j) (k := 0) (l := []) (Nat.le_refl _)
              refine ⟨j + 1, _, A5, c5, by have := HG.out; have := HJ.out; omega, by go_num, ?_, HP.out, ?_, ?_, fun x hx => Nat.le_trans HW0.out.size (HX5.out x hx), fun e => ?_, HW0.out.trans HG3.out⟩
              · rw [hpl]; rfl
              · rw [hpl]; exact HS5.out
              · rw [hpl]; exact HC5.out
              · rw [e] at hpl; simp at hpl
        · obtain ⟨ob, oo, rfl, hob, hoc⟩ := HSL.out.at_ (List.length_pos_iff.2 hl)
          have HOC := Lib.hid hoc
          clear hob hoc hl
          go_loopg [5] l.length (fun gx v wy => ∃ k : Nat, k = gx ∧ v = .int .i64 (k : Int) ∧ k ≤ l.length ∧ (∀ t, k ≤ t → t < l.length → (L j).s < (L (l.getD t 0)).s) ∧ Grow wo wy)
          case atStart => exact ⟨_, rfl, rfl, Nat.le_refl _, fun t h1 h2 => by omega, Kept.refl _ _⟩
          case round =>
            obtain ⟨k, hgk, rfl, hkl, hab, hgz⟩ := hrel
            have HGK := Lib.hid hgk
            have HKL := Lib.hid hkl
            have HAB := Lib.hid hab
            have HGZ := Lib.hid hgz
            clear hgk hab hgz
            have hkz : (k : Int) ≤ (l.length : Int) := by omega
            by_cases k0 : k = 0
            · have HBE : Hid (k = 0 ∨ (L (l.getD (k - 1) 0)).s ≤ (L j).s) := .inl k0
              have hg0 : ¬ (0 : Int) < (k : Int) := by omega
              have hg0' : decide ((0 : Int) < (k : Int)) = false := decide_eq_false hg0
              have hg1 : ¬ 0 < k := by omega
              have hg1' : decide (0 < k) = false := decide_eq_false hg1
              clear k0 hkl
              go_upto_region 7 with (fail)
              refine wp_region_stages Grow (kept_refl _) (kept_trans _) [] [0, 1, 2, 3, 4, 5, 6, 7, 8, 9, 10, 11, 12, 13, 14, 15, 16, 17, 18] (by kernel_rfl) (by kernel_rfl) ?_
              simp only [selSt, sel, List.map_cons, List.map_nil, List.getD_cons_succ, List.getD_cons_zero]
              refine st_nil fun K2 hK2 => ?_
              repeat (go_big_quiet_step (fail))
              refine wpQuiet_nil (hK2 _ ?_)
              clear hK2 K2
              clear hg0 hg0' hg1 hg1'
              go_upto_region 9 with (fail)
              have HW1 : Hid (Grow wo wr.drew) := HGZ.out.drew
              have HW0 : Hid (Grow w wr.drew) := HGR.out.trans HW1.out
              have HP := Lib.hid (ord_put HO.out HS.out HKL.out HAB.out HBE.out)
              have HSLW := Lib.hid (sl_grow' HSL.out HW1.out)
              have HCUT : Hid (Sl wr.drew wr.drew.heap.size .i64 (if c3 = k then (some ⟨ob, oo, none⟩ : Option Addr) else some ⟨ob, oo + k, none⟩) (l.length - k) ((nums l).drop k)) := by
                have := Sl.cut HSLW.out (m := k) (cap := c3) HKL.out HCC.out.1
                have e : Option.map (fun x : Addr => x.add k) (some (⟨ob, oo, none⟩ : Addr)) = some ⟨ob, oo + k, none⟩ := by simp only [Option.map_some, GsC.add_off]
                rw [e] at this
                exact this
              obtain ⟨v1, w1, hr1, hg1, v2, w2, hr2, hk2, hg2, A5, c5, w3, hr3, hk3, hg3, hs5, hc5, hx5⟩ := three_app (c3 := c3) (wz := wr.drew) (k := k) (j := j) HSLW.out (Nat.le_refl _) (by have := ord_len HO.out; have := HJ.out; omega) HKL.out _ HCUT.out
              have hkl : (k : Int) ≤ (l.length : Int) := by have := HKL.out; omega
              have hlc : (l.length : Int) ≤ (c3 : Int) := by have := HCC.out.1; omega
              have hcm : (c3 : Int) ≤ 9223372036854775807 := by have := HCC.out.2; unfold maxLen at this; omega
              have HR1 := Lib.hid hr1
              have HR2 := Lib.hid hr2
              have HR3 := Lib.hid hr3
              have HK2 := Lib.hid hk2
              have HK3 := Lib.hid hk3
              have HG1 := Lib.hid hg1
              have HG3 := Lib.hid hg3
              have HS5 := Lib.hid hs5
              have HC5 := Lib.hid hc5
              have HX5 := Lib.hid hx5
              clear hr1 hr2 hr3 hk2 hk3 hg1 hg2 hg3 hs5 hc5 hx5
              go_upto_region 10 with (at_builtin; refine Lib.wpList_append_run _ rfl _ _ _ _ rfl _ _ rfl rfl _ _ HR1.out ?_)
              refine wp_region_stages (Kept (wr.drew.heap.size ≤ ·)) (kept_refl _) (kept_trans _) [([0, 1, 4, 5, 6], 2), ([], 3), ([], 7)] [8] (by kernel_rfl) (by kernel_rfl) ?_
              simp only [selSt, sel, List.map_cons, List.map_nil, List.getD_cons_succ, List.getD_cons_zero]
              refine st_cons fun K1 hK1 => ?_
              repeat (go_big_quiet_step (fail))
              refine wpQuiet_nil ?_
              generalize (if c3 = k then (some ⟨ob, oo, none⟩ : Option Addr) else some ⟨ob, oo + k, none⟩) = A4 at HR3 HCUT ⊢
              go_wp2
              refine norm_up (hK1 _ _ ((Kept.refl _ _).alloc _) (st_cons fun K2 hK2 => wpQuiet_nil ?_))
              clear hK1 K1
              go_wp2_with (at_builtin; refine Lib.wpList_append_run _ rfl _ _ _ _ rfl _ _ rfl rfl _ _ HR2.out ?_)
              refine norm_up (hK2 _ _ HK2.out (st_cons fun K3 hK3 => wpQuiet_nil ?_))
              clear hK2 K2
              go_wp2_with (at_builtin; refine Lib.wpList_append_run _ rfl _ _ _ _ rfl _ _ rfl rfl _ _ HR3.out ?_)
              refine norm_up (hK3 _ _ HK3.out (st_nil fun K4 hK4 => ?_))
              clear hK3 K3
              repeat (go_big_quiet_step (fail))
              refine wpQuiet_nil (hK4 _ ?_)
              clear hK4 K4
              go_wp2
              go_roundg (n - (j + 1))
              case measure => have := HG.out; have := HJ.out; omega
              case rel =>
                have hpl := put_len (j := j) HKL.out
                refine ⟨j + 1, _, A5, c5, by have := HG.out; have := HJ.out; omega, by go_num, ?_, HP.out, ?_, ?_, fun x hx => Nat.le_trans HW0.out.size (HX5.out x hx), fun e => ?_, HW0.out.trans HG3.out⟩
                · rw [hpl]
                · rw [hpl]; exact HS5.out
                · rw [hpl]; exact HC5.out
                · rw [e] at hpl; simp at hpl
            · have hg0 : (0 : Int) < (k : Int) := by omega
              have hg1 : 0 < k := by omega
              have hge : (0 : Int) ≤ (k : Int) - 1 := by omega
              have hlt : (k : Int) - 1 < (l.length : Int) := by omega
              have o1 := HGZ.out.cellN (HOC.out (k - 1) (by omega)) id
              rw [nums_get] at o1
              have hmem : l.getD (k - 1) 0 ∈ l := by rw [List.getD_eq_getElem?_getD, List.getElem?_eq_getElem (show k - 1 < l.length by omega)]; exact List.getElem_mem _
              have hpj := (ord_lt HO.out hmem).1
              have HK1 : Hid (0 < k) := hg1
              clear hmem hkl k0
              generalize hp : l.getD (k - 1) 0 = p at *
              have HPP := Lib.hid hp
              clear hp
              have s1 := HGZ.out.cellN (HST.out p (by have := HJ.out; omega)) id
              have s2 := HGZ.out.cellN c12 id
              have hpz : (p : Int) < (n : Int) := by have := HJ.out; omega
              have hpz0 : (0 : Int) ≤ (p : Int) := by omega
              have u1 := up_cell (F := fun _ => False) (w := wr.drew) o1 id
              have u2 := up_cell (F := fun _ => False) (w := wr.drew) s1 id
              have u3 := up_cell (F := fun _ => False) (w := wr.drew) s2 id
              by_cases hc : (L j).s < (L p).s
              · have HC := Lib.hid hc
                go_upto_region 7 with (fail)
                refine wp_region_stages Grow (kept_refl _) (kept_trans _) [] [0, 1, 2, 3, 4, 5, 6, 7, 8, 9, 10, 11, 12, 13, 14, 15, 16, 17, 18] (by kernel_rfl) (by kernel_rfl) ?_
                simp only [selSt, sel, List.map_cons, List.map_nil, List.getD_cons_succ, List.getD_cons_zero]
                refine st_nil fun K2 hK2 => ?_
                repeat (go_big_quiet_step (fail))
                refine wpQuiet_nil (hK2 _ ?_)
                clear hK2 K2
                clear u1 u2 u3
                go_wp2
                go_roundg (gk - 1)
                case measure => have := HGK.out; have := HK1.out; omega
                case rel =>
                  refine ⟨k - 1, by have := HGK.out; omega, by congr 1; have := HK1.out; omega, by have := HKL.out; omega, fun t h1 h2 => ?_, HGZ.out.drew⟩
                  by_cases e : t = k - 1
                  · rw [e, HPP.out]; exact HC.out
                  · exact HAB.out t (by omega) h2
              · have HBE : Hid (k = 0 ∨ (L (l.getD (k - 1) 0)).s ≤ (L j).s) := .inr (by rw [HPP.out]; omega)
                have hc' : decide ((L j).s < (L p).s) = false := decide_eq_false hc
                go_upto_region 7 with (fail)
                refine wp_region_stages Grow (kept_refl _) (kept_trans _) [] [0, 1, 2, 3, 4, 5, 6, 7, 8, 9, 10, 11, 12, 13, 14, 15, 16, 17, 18] (by kernel_rfl) (by kernel_rfl) ?_
                simp only [selSt, sel, List.map_cons, List.map_nil, List.getD_cons_succ, List.getD_cons_zero]
                refine st_nil fun K2 hK2 => ?_
                repeat (go_big_quiet_step (fail))
                refine wpQuiet_nil (hK2 _ ?_)
                clear hK2 K2
                clear u1 u2 u3 hc hc' hg0 hg1 hge hlt o1 s1 s2 hpz hpz0
                go_upto_region 9 with (fail)
                have HW1 : Hid (Grow wo wr.drew) := HGZ.out.drew
                have HW0 : Hid (Grow w wr.drew) := HGR.out.trans HW1.out
                have HP := Lib.hid (ord_put HO.out HS.out HKL.out HAB.out HBE.out)
                have HSLW := Lib.hid (sl_grow' HSL.out HW1.out)
                have HCUT : Hid (Sl wr.drew wr.drew.heap.size .i64 (if c3 = k then (some ⟨ob, oo, none⟩ : Option Addr) else some ⟨ob, oo + k, none⟩) (l.length - k) ((nums l).drop k)) := by
                  have := Sl.cut HSLW.out (m := k) (cap := c3) HKL.out HCC.out.1
                  have e : Option.map (fun x : Addr => x.add k) (some (⟨ob, oo, none⟩ : Addr)) = some ⟨ob, oo + k, none⟩ := by simp only [Option.map_some, GsC.add_off]
                  rw [e] at this
                  exact this
                obtain ⟨v1, w1, hr1, hg1, v2, w2, hr2, hk2, hg2, A5, c5, w3, hr3, hk3, hg3, hs5, hc5, hx5⟩ := three_app (c3 := c3) (wz := wr.drew) (k := k) (j := j) HSLW.out (Nat.le_refl _) (by have := ord_len HO.out; have := HJ.out; omega) HKL.out _ HCUT.out
                have hkl : (k : Int) ≤ (l.length : Int) := by have := HKL.out; omega
                have hlc : (l.length : Int) ≤ (c3 : Int) := by have := HCC.out.1; omega
                have hcm : (c3 : Int) ≤ 9223372036854775807 := by have := HCC.out.2; unfold maxLen at this; omega
                have HR1 := Lib.hid hr1
                have HR2 := Lib.hid hr2
                have HR3 := Lib.hid hr3
                have HK2 := Lib.hid hk2
                have HK3 := Lib.hid hk3
                have HG1 := Lib.hid hg1
                have HG3 := Lib.hid hg3
                have HS5 := Lib.hid hs5
                have HC5 := Lib.hid hc5
                have HX5 := Lib.hid hx5
                clear hr1 hr2 hr3 hk2 hk3 hg1 hg2 hg3 hs5 hc5 hx5
                go_upto_region 10 with (at_builtin; refine Lib.wpList_append_run _ rfl _ _ _ _ rfl _ _ rfl rfl _ _ HR1.out ?_)
                refine wp_region_stages (Kept (wr.drew.heap.size ≤ ·)) (kept_refl _) (kept_trans _) [([0, 1, 4, 5, 6], 2), ([], 3), ([], 7)] [8] (by kernel_rfl) (by kernel_rfl) ?_
                simp only [selSt, sel, List.map_cons, List.map_nil, List.getD_cons_succ, List.getD_cons_zero]
                refine st_cons fun K1 hK1 => ?_
                repeat (go_big_quiet_step (fail))
                refine wpQuiet_nil ?_
                generalize (if c3 = k then (some ⟨ob, oo, none⟩ : Option Addr) else some ⟨ob, oo + k, none⟩) = A4 at HR3 HCUT ⊢
                go_wp2
                refine norm_up (hK1 _ _ ((Kept.refl _ _).alloc _) (st_cons fun K2 hK2 => wpQuiet_nil ?_))
                clear hK1 K1
                go_wp2_with (at_builtin; refine Lib.wpList_append_run _ rfl _ _ _ _ rfl _ _ rfl rfl _ _ HR2.out ?_)
                refine norm_up (hK2 _ _ HK2.out (st_cons fun K3 hK3 => wpQuiet_nil ?_))
                clear hK2 K2
                go_wp2_with (at_builtin; refine Lib.wpList_append_run _ rfl _ _ _ _ rfl _ _ rfl rfl _ _ HR3.out ?_)
                refine norm_up (hK3 _ _ HK3.out (st_nil fun K4 hK4 => ?_))
                clear hK3 K3
                repeat (go_big_quiet_step (fail))
                refine wpQuiet_nil (hK4 _ ?_)
                clear hK4 K4
                go_wp2
                go_roundg (n - (j + 1))
                case measure => have := HG.out; have := HJ.out; omega
                case rel =>
                  have hpl := put_len (j := j) HKL.out
                  refine ⟨j + 1, _, A5, c5, by have := HG.out; have := HJ.out; omega, by go_num, ?_, HP.out, ?_, ?_, fun x hx => Nat.le_trans HW0.out.size (HX5.out x hx), fun e => ?_, HW0.out.trans HG3.out⟩
                  · rw [hpl]
                  · rw [hpl]; exact HS5.out
                  · rw [hpl]; exact HC5.out
                  · rw [e] at hpl; simp at hpl
    · have hjN : j = n := by have := HG.out; omega
      subst hjN
      clear hj
      go_wp2
      go_ret
      exact ⟨l, A3, c3, rfl, HO.out, HSL.out, fun _ x hx => HNW.out x hx, HGR.out⟩

end
end Go.Proofs.Ytjdlpknflhgkfaa.HsRO
