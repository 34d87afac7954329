/-
  For every input the call of lavabolaw1.SumThrees returns true and leaves its arguments as they were; no condition.
-/
import Derived.Test.YtfjpiioedkjbcaaTold1
import Derived.RegionTactic
import Derived.BigRegion
import Derived.Deep.DeepCutAuto
import Derived.Test.YtfjpiioedkjbcaaRows
import Derived.WalkKit
import Derived.ProofKit
import Derived.OpenShut
import Derived.ShutString
import Derived.ChangeOld
import Derived.Below
namespace Go.Proofs.Ytfjpiioedkjbcaa.sumThrees
open Go.ChangeShapes Go.WideShapes Go.ChangeAt Go.RowKit
open Go.ChangeMaps (open_string shut_string)
open Go.Proofs.Ytfjpiioedkjbcaa.SumM Go.Proofs.Ytfjpiioedkjbcaa.Mem Go.Proofs.Ytfjpiioedkjbcaa.SumC Go.Proofs.Ytfjpiioedkjbcaa.Told1
open Go.Sort (grow)
set_option linter.unusedVariables false

theorem own : ownKnob Try.prog.godebug = none := by kernel_rfl
theorem laidOut : laidOutB Try.prog = true := by kernel_rfl

/-- WHAT THE WALK IS TOLD OF A SLICE OF INTEGERS THAT CAME IN: it is nil; or it leads to a row of 'cap' cells, the numbers 'zs' (the first 'len' are its elements, the rest its spare room), each fitting its kind. -/
def IsRow (k : IntKind) (w : World) (a : Option Addr) (len cap : Nat) (zs : List Int) : Prop :=
  (a = none ∧ len = 0 ∧ cap = 0 ∧ zs = []) ∨
  ∃ x, a = some x ∧ len ≤ cap ∧ cap ≤ maxLen ∧ zs.length = cap ∧ (∀ i, i < zs.length → w.cell? (x.add i) = some (.int k (zs.getD i 0))) ∧ ∀ n ∈ zs, (Lit.int k n).wf = true

theorem infoU8 : (Try.prog.info? 5).map (fun i => (i.zero, i.size, i.bytes)) = some (some (.int .u8 0), 1, 1) := by kernel_rfl

/-- The first j bytes of the new slice are laid. -/
def R (w wr : World) (N : Nat) (X : List Int) (j : Nat) : Prop := ∃ xs : List Int, xs.length = N ∧ (∀ t, t < j → xs.getD t 0 = X.getD t 0) ∧
  wr.ownsRow w.heap.size 5 1 (.slice (some ⟨w.heap.size, 0, none⟩) N N) N (xs.map (Value.int .u8)) ∧ Below w.heap.size w wr
theorem R.start {w w1 : World} {N : Nat} (X : List Int) (h : w1.ownsRow w.heap.size 5 1 (.slice (some ⟨w.heap.size, 0, none⟩) N N) N (madeCells (Value.int .u8 0).cells (N * 1)).toList) (hg : w.grownBy w1 none) : R w w1 N X 0 := by
  refine ⟨List.replicate N 0, by simp, fun t ht => absurd ht (by omega), ?_, (Below.refl _ _).grown hg (Nat.le_refl _) (fun k hk => by cases hk)⟩
  have e : (madeCells (Value.int .u8 0).cells (N * 1)).toList = (List.replicate N 0).map (Value.int .u8) := by
    rw [Nat.mul_one, List.map_replicate]
    exact toList_madeCells_one _ _
  rw [← e]
  exact h
theorem R.cell {w wr : World} {N : Nat} {X : List Int} {j : Nat} (h : R w wr N X j) (hj : j < N) :
    (∃ v, wr.cell? ⟨w.heap.size, j, none⟩ = some v) ∧ ∀ t, wr.frozen? ⟨w.heap.size, t, none⟩ = false := by
  obtain ⟨xs, hl, _, hown, _⟩ := h
  refine ⟨⟨.int .u8 (xs.getD j 0), ?_⟩, fun t => hown.frozenAt t⟩
  rw [hown.cellAt j (by omega)]
  simp [List.getD_eq_getElem?_getD, List.getElem?_eq_getElem (show j < xs.length by omega)]
theorem R.step {w wr : World} {N : Nat} {X : List Int} {j : Nat} (h : R w wr N X j) (hj : j < N) : R w ((wr.setCell ⟨w.heap.size, j, none⟩ (.int .u8 (X.getD j 0))).drew) N X (j + 1) := by
  obtain ⟨xs, hl, hx, hown, hb⟩ := h
  refine ⟨xs.set j (X.getD j 0), by rw [List.length_set, hl], fun t ht => ?_, ?_, (hb.setCell (Nat.le_refl _) _).drew⟩
  · by_cases e : t = j
    · subst e; simp [List.getD_eq_getElem?_getD, hl, hj]
    · have := hx t (by omega)
      rw [← this]
      simp [List.getD_eq_getElem?_getD, List.getElem?_set_ne (Ne.symm e)]
  · have := (hown.stored j (.int .u8 (X.getD j 0))).1
    rw [← List.map_set] at this
    exact this.drew
theorem R.done {w wr : World} {N : Nat} {X : List Int} (h : R w wr N X N) (hX : X.length = N) : Sl wr wr.heap.size .u8 (some ⟨w.heap.size, 0, none⟩) N X ∧ Below w.heap.size w wr := by
  obtain ⟨xs, hl, hx, hown, hb⟩ := h
  have e : xs = X := by
    apply List.ext_getElem (by omega)
    intro t h1 h2
    have := hx t (by omega)
    simpa [List.getD_eq_getElem?_getD, h1, h2] using this
  rw [e] at hown
  exact ⟨Sl.of_own hown, hb⟩
theorem R.below {w wr : World} {N : Nat} {X : List Int} {j : Nat} (h : R w wr N X j) : Below w.heap.size w wr := by
  obtain ⟨_, _, _, _, hb⟩ := h; exact hb
theorem U8.at_ {zs : List Int} (h : Bytes zs) {j : Nat} (hj : j < zs.length) : U8 (zs.getD j 0) := by
  rw [List.getD_eq_getElem?_getD, List.getElem?_eq_getElem hj]
  exact h _ (List.getElem_mem _)
theorem take_at {zs : List Int} {N j : Nat} (h : j < N) : (zs.take N).getD j 0 = zs.getD j 0 := by simp [List.getD_eq_getElem?_getD, h]
theorem x3_bits8 {a b c : Int} (ha : U8 a) (hb : U8 b) (hc : U8 c) : bits .xor .u8 (bits .xor .u8 a b) c = x3 a b c := by
  obtain ⟨h1, h2⟩ := ha; obtain ⟨h3, h4⟩ := hb; obtain ⟨h5, h6⟩ := hc
  have h := Nat.xor_lt_two_pow (n := 8) (x := a.toNat) (y := b.toNat) (by omega) (by omega)
  rw [u8_xor a b h1 h2 h3 h4, u8_xor _ c (by omega) (by omega) h5 h6]
  rfl
theorem x3_bits32 {a b c : Int} (ha : U32 a) (hb : U32 b) (hc : U32 c) : bits .xor .u32 (bits .xor .u32 a b) c = x3 a b c := by
  obtain ⟨h1, h2⟩ := ha; obtain ⟨h3, h4⟩ := hb; obtain ⟨h5, h6⟩ := hc
  have h := Nat.xor_lt_two_pow (n := 32) (x := a.toNat) (y := b.toNat) (by omega) (by omega)
  rw [u32_xor a b h1 h2 h3 h4, u32_xor _ c (by omega) (by omega) h5 h6]
  rfl

/-! ### STEP 1: THE WALK: the Go text returns true, AND WRITES NOTHING THAT WAS THERE: 'Below w.heap.size w w'' (Derived/Below.lean: '.refl', '.alloc', '.drew', '.setCell' at a new block, '.trans'). Open each 'IsRow' by 'rcases' AHEAD of 'go_enter'; part every test ahead of the walk. -/
theorem walk (a0 : Option Addr) (len0 cap0 : Nat) (z0 : List Int) (a1 : Option Addr) (len1 cap1 : Nat) (z1 : List Int) (a2 : Option Addr) (len2 cap2 : Nat) (z2 : List Int) (w : World) (w0 : IsRow .u8 w a0 len0 cap0 z0) (w1 : IsRow .u8 w a1 len1 cap1 z1) (w2 : IsRow .u8 w a2 len2 cap2 z2) :
    Calls Try.prog 7 #[.slice a0 len0 cap0, .slice a1 len1 cap1, .slice a2 len2 cap2] w fun e w' => e = .returned (.bool true) ∧ Below w.heap.size w w' := by
  obtain ⟨hs0, hle0, hcap0, hwf0⟩ := Sl.of_isRow w0
  obtain ⟨hs1, hle1, hcap1, hwf1⟩ := Sl.of_isRow w1
  obtain ⟨hs2, hle2, hcap2, hwf2⟩ := Sl.of_isRow w2
  have hz0 : Bytes (z0.take len0) := fun c hc => by have := bounds_u8 (hwf0 c hc); exact ⟨by omega, by omega⟩
  have hz1 : Bytes (z1.take len1) := fun c hc => by have := bounds_u8 (hwf1 c hc); exact ⟨by omega, by omega⟩
  have hz2 : Bytes (z2.take len2) := fun c hc => by have := bounds_u8 (hwf2 c hc); exact ⟨by omega, by omega⟩
  clear w0 hwf0 w1 hwf1 w2 hwf2
  generalize z0.take len0 = A at hs0 hz0
  generalize z1.take len1 = B at hs1 hz1
  generalize z2.take len2 = C at hs2 hz2
  obtain ⟨N, hN⟩ : ∃ N, N = min len0 (min len1 len2) := ⟨_, rfl⟩
  have hN0 : N ≤ len0 := by omega
  have hN1 : N ≤ len1 := by omega
  have hN2 : N ≤ len2 := by omega
  have HN := Lib.hid hN
  clear hN
  unfold maxLen at hcap0 hcap1 hcap2
  obtain ⟨i0, hi0, hi1, hi2, hi3⟩ := info_parts infoU8
  go_enter Try.func7, Try.ntmps7
  go_upto_region 1 with fail
  go_cut [7] (fun s7 wx => s7 = .int .i64 (N : Int) ∧ w = wx)
  case first =>
    go_wp2_with fail
    all_goals (go_meet; exact ⟨by have := HN.out; congr 1; omega, rfl⟩)
  case rest =>
    obtain ⟨rfl, rfl⟩ := hcut
    by_cases h3 : 100 < N
    · have h3' : (100 : Int) < (N : Int) := by omega
      go_wp2_with (go_at_call 8; (with_reducible refine (told_any _).mono ?_); rintro e w' ⟨rfl, hb⟩)
      go_ret
      exact ⟨rfl, hb⟩
    · have h3' : (N : Int) ≤ 100 := by omega
      have hA : (A.take N).length = N := by rw [List.length_take, hs0.len]; omega
      have hB : (B.take N).length = N := by rw [List.length_take, hs1.len]; omega
      have hC : (C.take N).length = N := by rw [List.length_take, hs2.len]; omega
      have bA : Bytes (A.take N) := fun d hd => hz0 d (List.mem_of_mem_take hd)
      have bB : Bytes (B.take N) := fun d hd => hz1 d (List.mem_of_mem_take hd)
      have bC : Bytes (C.take N) := fun d hd => hz2 d (List.mem_of_mem_take hd)
      have HX := Lib.hid (x3l_len _ _ _ N hA hB hC)
      have HY := Lib.hid (x3l_at _ _ _ N hA hB hC)
      have HZ := Lib.hid (x3l_bytes bA bB bC)
      have HO := Lib.hid (ofI_x3 _ _ _ N hA hB hC bA bB bC)
      generalize x3l (A.take N) (B.take N) (C.take N) = X at HX HY HZ HO
      have hb2 : i0.bytes * N ≤ 281474976710656 := by rw [hi3]; omega
      have hb3 : N ≤ maxLen := by unfold maxLen; omega
      clear hA hB hC bA bB bC
      go_wp2_with (refine wpList_make_full _ rfl (.tmp 21) (.tmp 21) 22 rfl w.heap.size 5 i0 (.int .u8 0) 1 Try.underlying22 hi0 hi1 hi2 .i64 .i64 _ _ N rfl rfl rfl rfl hb2 hb3 (Nat.le_refl _) ?_; intro w2 hown hg; have hR0 := R.start X hown hg; clear hown hg)
      go_loopg [9] N (fun g v wr => ∃ j : Nat, j + g = N ∧ v = .int .i64 (j : Int) ∧ R w wr N X j)
      case atStart => exact ⟨0, by omega, rfl, hR0⟩
      case round =>
        clear hR0
        obtain ⟨j, hg, rfl, hR⟩ := hrel
        by_cases hj : j < N
        · obtain ⟨⟨v, hcx⟩, hfx⟩ := hR.cell hj
          have hbel := hR.below
          obtain ⟨b0, o0, rfl, l0, c0⟩ := (hs0.below hbel).at_ (by omega)
          obtain ⟨b1, o1, rfl, l1, c1⟩ := (hs1.below hbel).at_ (by omega)
          obtain ⟨b2, o2, rfl, l2, c2⟩ := (hs2.below hbel).at_ (by omega)
          have d0 := c0 j (by omega)
          have d1 := c1 j (by omega)
          have d2 := c2 j (by omega)
          have HV : Hid (bits .xor .u8 (bits .xor .u8 (A.getD j 0) (B.getD j 0)) (C.getD j 0) = X.getD j 0) := by
            have := HY.out j hj
            rw [take_at hj, take_at hj, take_at hj] at this
            show _ = _
            rw [this]
            exact x3_bits8 (U8.at_ hz0 (by have := hs0.len; omega)) (U8.at_ hz1 (by have := hs1.len; omega)) (U8.at_ hz2 (by have := hs2.len; omega))
          have HG := Lib.hid hg
          clear c0 c1 c2 hg hbel
          have i0 : (0 : Int) ≤ (j : Int) := by omega
          have i1 : (j : Int) < (len0 : Int) := by omega
          have i2 : (j : Int) < (len1 : Int) := by omega
          have i3 : (j : Int) < (len2 : Int) := by omega
          have i4 : (j : Int) < (N : Int) := by omega
          generalize A.getD j 0 = p at d0 HV
          generalize B.getD j 0 = q at d1 HV
          generalize C.getD j 0 = r at d2 HV
          go_wp2
          go_region
          go_wp2
          go_roundg (gk - 1)
          case measure => have := HG.out; omega
          case rel =>
            refine ⟨j + 1, by have := HG.out; omega, by go_num, ?_⟩
            rw [HV.out]
            exact hR.step hj
        · obtain rfl : j = N := by omega
          obtain ⟨hsx, hbW⟩ := hR.done HX.out
          have hs0' := (hs0.below hbW).more hbW.size
          have hs1' := (hs1.below hbW).more hbW.size
          have hs2' := (hs2.below hbW).more hbW.size
          have bA : Bytes (A.take j) := fun d hd => hz0 d (List.mem_of_mem_take hd)
          have bB : Bytes (B.take j) := fun d hd => hz1 d (List.mem_of_mem_take hd)
          have bC : Bytes (C.take j) := fun d hd => hz2 d (List.mem_of_mem_take hd)
          have q0 : ∀ d os, _ := quiet_below (w := wr) fun w1 _ => told_any w1
          have q1 : ∀ d os, _ := quiet_same (w := wr) fun w1 h1 => of_any _ _ j _ _ w1 HZ.out hb3 (hsx.below h1)
          have q2 : ∀ d os, _ := quiet_same (w := wr) fun w1 h1 => of_any _ j cap0 _ _ w1 bA hb3 ((hs0'.below h1).take hN0)
          have q3 : ∀ d os, _ := quiet_same (w := wr) fun w1 h1 => of_any _ j cap1 _ _ w1 bB hb3 ((hs1'.below h1).take hN1)
          have q4 : ∀ d os, _ := quiet_same (w := wr) fun w1 h1 => of_any _ j cap2 _ _ w1 bC hb3 ((hs2'.below h1).take hN2)
          have e : ofI X = bits .xor .u32 (bits .xor .u32 (ofI (A.take j)) (ofI (B.take j))) (ofI (C.take j)) := by
            rw [HO.out]; exact (x3_bits32 (ofI_u32 bA) (ofI_u32 bB) (ofI_u32 bC)).symm
          rw [e] at q1
          have i0 : (0 : Int) ≤ (j : Int) := by omega
          have i1 : (j : Int) ≤ (cap0 : Int) := by omega
          have i2 : (j : Int) ≤ (cap1 : Int) := by omega
          have i3 : (j : Int) ≤ (cap2 : Int) := by omega
          clear hsx hs0' hs1' hs2' bA bB bC e hs0 hs1 hs2 hz0 hz1 hz2 hg
          generalize ofI (A.take j) = p at q1 q2
          generalize ofI (B.take j) = q at q1 q3
          generalize ofI (C.take j) = r at q1 q4
          go_wp2
          refine wp_region_quiet_below (by kernel_rfl) (by kernel_rfl) ?_
          repeat (go_big_quiet_step (first | (with_reducible exact q0 _ _) | (with_reducible exact q1 _ _) | (with_reducible exact q2 _ _) | (with_reducible exact q3 _ _) | (with_reducible exact q4 _ _)))
          refine wpQuiet_nil ?_
          intro _ hw'
          obtain ⟨⟨dq, osq⟩, hw''⟩ := hw'
          subst hw''
          go_wp2
          all_goals (go_ret; exact ⟨rfl, hbW.trans ((below_regrown wr dq osq).mono hbW.size)⟩)

/-! ### THE ROW's STEP: WRITTEN OUT: LEAVE IT -/
set_option maxRecDepth 100000 in
theorem lifted (os : Os) (started : os.Started) (H : Type) (enc : TypeId × Value → H) :
    ReturnsInHanded {} Try.checked os 7 .any (Rows.sumThreesSpec.pre6 enc Try.prog Try.f7 Rows.sumThreesRow.domain false) (Rows.sumThreesSpec.post enc Try.prog Try.f7 false true false false) := by
  refine returnsInHanded_of_change (C := Try.checked) own started (by kernel_rfl) Try.func7
    (ChangeSpec.witness6 (enc := enc) (C := Try.checked) false ⟨#[], #[.slice none 0 0, .slice none 0 0, .slice none 0 0], []⟩ 8 (by kernel_rfl) (by kernel_rfl) (by kernel_rfl) (by kernel_rfl)) ?_
  intro W base args ds gs before hval0 hW hcnd _
  have hval : ∀ (j : Nat) t v, Try.f7.params[j]? = some t → args[j]? = some v → Value.okWide Try.prog W .any base t v := hval0
  have hW' := hW
  obtain ⟨p, q, hA0, hV, rfl, hfz, hnd⟩ := hW
  have hA : DataW.TrodAll enc Try.prog W 0 (fun _ => true) true Try.f7.params.toList args.toList ds p := hA0
  rw [Try.params7] at hA hval
  obtain ⟨v0, vs0, d0, ds0, p0, q0, hargs, rfl, rfl, h0, r0⟩ := trodAll_cons hA
  obtain ⟨v1, vs1, d1, ds1, p1, q1, rfl, rfl, rfl, h1, r1⟩ := trodAll_cons r0
  obtain ⟨v2, vs2, d2, ds2, p2, q2, rfl, rfl, rfl, h2, r2⟩ := trodAll_cons r1
  obtain ⟨rfl, rfl, rfl⟩ := trodAll_nil r2
  obtain rfl : args = #[v0, v1, v2] := by cases args; simp_all
  obtain ⟨rfl, rfl⟩ := trodVars_none hV
  obtain ⟨a0, len0, cap0, rfl⟩ := okWide_slice Try.underlying22 (hval 0 22 v0 rfl rfl)
  have k0 := h0
  have lt0 : ∀ x ∈ p0, x.block < W.heap.size := by obtain ⟨m, hm⟩ := k0; exact DataW.trod_lt m _ _ _ hm
  obtain ⟨z0, w0⟩ : ∃ zs, IsRow .u8 W a0 len0 cap0 zs := by
    obtain ⟨fuel, hf⟩ := h0
    rcases open_ints Try.underlying22 Try.underlying5 (by kernel_rfl) hf with ⟨hcs, _⟩ | ⟨x, l, c, zs, hcs, _, hl, hm, hz, _, hcell, hwz⟩
    · simp [Value.cells] at hcs
      obtain ⟨rfl, rfl, rfl⟩ := hcs
      exact ⟨[], .inl ⟨rfl, rfl, rfl, rfl⟩⟩
    · simp [Value.cells] at hcs
      obtain ⟨rfl, rfl, rfl⟩ := hcs
      exact ⟨zs, .inr ⟨_, rfl, hl, hm, by simpa using hz, hcell, hwz⟩⟩
  obtain ⟨a1, len1, cap1, rfl⟩ := okWide_slice Try.underlying22 (hval 1 22 v1 rfl rfl)
  have k1 := h1
  have lt1 : ∀ x ∈ p1, x.block < W.heap.size := by obtain ⟨m, hm⟩ := k1; exact DataW.trod_lt m _ _ _ hm
  obtain ⟨z1, w1⟩ : ∃ zs, IsRow .u8 W a1 len1 cap1 zs := by
    obtain ⟨fuel, hf⟩ := h1
    rcases open_ints Try.underlying22 Try.underlying5 (by kernel_rfl) hf with ⟨hcs, _⟩ | ⟨x, l, c, zs, hcs, _, hl, hm, hz, _, hcell, hwz⟩
    · simp [Value.cells] at hcs
      obtain ⟨rfl, rfl, rfl⟩ := hcs
      exact ⟨[], .inl ⟨rfl, rfl, rfl, rfl⟩⟩
    · simp [Value.cells] at hcs
      obtain ⟨rfl, rfl, rfl⟩ := hcs
      exact ⟨zs, .inr ⟨_, rfl, hl, hm, by simpa using hz, hcell, hwz⟩⟩
  obtain ⟨a2, len2, cap2, rfl⟩ := okWide_slice Try.underlying22 (hval 2 22 v2 rfl rfl)
  have k2 := h2
  have lt2 : ∀ x ∈ p2, x.block < W.heap.size := by obtain ⟨m, hm⟩ := k2; exact DataW.trod_lt m _ _ _ hm
  obtain ⟨z2, w2⟩ : ∃ zs, IsRow .u8 W a2 len2 cap2 zs := by
    obtain ⟨fuel, hf⟩ := h2
    rcases open_ints Try.underlying22 Try.underlying5 (by kernel_rfl) hf with ⟨hcs, _⟩ | ⟨x, l, c, zs, hcs, _, hl, hm, hz, _, hcell, hwz⟩
    · simp [Value.cells] at hcs
      obtain ⟨rfl, rfl, rfl⟩ := hcs
      exact ⟨[], .inl ⟨rfl, rfl, rfl, rfl⟩⟩
    · simp [Value.cells] at hcs
      obtain ⟨rfl, rfl, rfl⟩ := hcs
      exact ⟨zs, .inr ⟨_, rfl, hl, hm, by simpa using hz, hcell, hwz⟩⟩
  clear hA0 hval0
  refine (walk a0 len0 cap0 z0 a1 len1 cap1 z1 a2 len2 cap2 z2 W w0 w1 w2).mono fun e W' ⟨he, bel⟩ => ?_
  subst he
  exact ⟨_, rfl, _, _, _, [], _, [], hW', trodAll_mk1 (shut_bool Try.underlying4 _), (trodAll_cons_mk (Below.trod laidOut (by kernel_rfl) (of_decide_eq_true (by kernel_rfl)) k0 bel lt0) (trodAll_cons_mk (Below.trod laidOut (by kernel_rfl) (of_decide_eq_true (by kernel_rfl)) k1 bel lt1) (trodAll_cons_mk (Below.trod laidOut (by kernel_rfl) (of_decide_eq_true (by kernel_rfl)) k2 bel lt2) trodAll_mk0))), rfl, bel.frame _, fun h => by cases h⟩

theorem over : Rows.sumThreesRow.holds Try.pinned (OpenSpec.ofChange Rows.sumThreesSpec) :=
  OpenClaim.holds_of_wide 7 Try.f7 rfl rfl rfl rfl rfl rfl rfl ⟨rfl, rfl, rfl, rfl, rfl⟩ rfl rfl rfl rfl rfl (by kernel_rfl) Try.func7 (by kernel_rfl)
    (of_decide_eq_true (by kernel_rfl)) (by unfold Func.isWrapper; first | (rw [if_pos (by decide +kernel)]; kernel_rfl) | (rw [if_neg (by decide +kernel)]; exact ⟨rfl, rfl⟩))
    (fun os started H enc _ => lifted os started H enc)

/-- ████ THE STATEMENT ████ -/
theorem proved : Rows.SumThreesSaid := over
#print axioms proved
end Go.Proofs.Ytfjpiioedkjbcaa.sumThrees
