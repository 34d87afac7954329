/-
  For every input the call of lavabolaw8.RingApplies returns true and leaves its arguments as they were; no condition.
-/
import Derived.Test.YtodmjclkfadooaaTold8
import Derived.Test.YtodmjclkfadooaaRingRApply
import Derived.Test.YtodmjclkfadooaaInts
import Derived.Test.YtodmjclkfadooaaRows
import Derived.WalkKit
import Derived.ProofKit
import Derived.OpenShut
import Derived.ShutString
import Derived.ChangeOld
import Derived.Below
namespace Go.Proofs.Ytodmjclkfadooaa.ringApplies
open Go.ChangeShapes Go.WideShapes Go.ChangeAt Go.RowKit
open Go.ChangeMaps (open_string shut_string)
open Go.Conc
open Go.Proofs.Ytodmjclkfadooaa.Mem Go.Proofs.Ytodmjclkfadooaa.Blk Go.Proofs.Ytodmjclkfadooaa.ListM Go.Proofs.Ytodmjclkfadooaa.Rowed
open Go.Proofs.Ytodmjclkfadooaa.ListC (ListPost front_any back_any)
open Go.Proofs.Ytodmjclkfadooaa.ListD (new_good out_any all_any NewPost)
open Go.Proofs.Ytodmjclkfadooaa.ListR (RefAt)
open Go.Proofs.Ytodmjclkfadooaa.ListS (RPost)
open Go.Proofs.Ytodmjclkfadooaa.ListT (rback_any)
open Go.Proofs.Ytodmjclkfadooaa.RingA Go.Proofs.Ytodmjclkfadooaa.RingB Go.Proofs.Ytodmjclkfadooaa.IntsC Go.Proofs.Ytodmjclkfadooaa.Told8 Go.Proofs.Ytodmjclkfadooaa.Stages
set_option linter.unusedVariables false

theorem own : ownKnob Try.prog.godebug = none := by kernel_rfl
theorem laidOut : laidOutB Try.prog = true := by kernel_rfl

/-- WHAT THE WALK IS TOLD OF A SLICE OF INTEGERS THAT CAME IN: it is nil; or it leads to a row of 'cap' cells, the numbers 'zs' (the first 'len' are its elements, the rest its spare room), each fitting its kind. -/
def IsRow (k : IntKind) (w : World) (a : Option Addr) (len cap : Nat) (zs : List Int) : Prop :=
  (a = none ∧ len = 0 ∧ cap = 0 ∧ zs = []) ∨
  ∃ x, a = some x ∧ len ≤ cap ∧ cap ≤ maxLen ∧ zs.length = cap ∧ (∀ i, i < zs.length → w.cell? (x.add i) = some (.int k (zs.getD i 0))) ∧ ∀ n ∈ zs, (Lit.int k n).wf = true

/-- Both lists: who is in is the same. -/
structure Two (w : World) (d D m : Nat) (zs : List Nat) (wx : World) : Prop where
  a : ListAt wx d D 32 zs
  r : RefAt wx m 32 (Own d D) zs
  g : Grow w wx
structure Apart (w : World) (d D m : Nat) : Prop where
  am : ¬ Own d D m
  la : ∀ k, Own d D k → w.heap.size ≤ k
  lm : w.heap.size ≤ m
theorem grow_then {F : Nat → Prop} {w wx wy : World} (h : Grow w wx) (k : Kept F wx wy) (hF : ∀ i, F i → w.heap.size ≤ i) : Grow w wy :=
  h.then k fun i hi hf => by have := hF i hf; omega
section
variable {w wx wy wz : World} {d D m : Nat} {zs us : List Nat}
theorem Two.op (h : Two w d D m zs wx) (ap : Apart w d D m) (hl : ListAt wy d D 32 us) (hk : Kept (Own d D) wx wy) (hr : RefAt wz m 32 (Own d D) us) (hk2 : Kept (· = m) wy wz) : Two w d D m us wz :=
  ⟨hl.kept hk2 (fun k e h => ap.am (e ▸ h)), hr, grow_then (grow_then h.g hk ap.la) hk2 fun i e => by have := ap.lm; omega⟩
theorem Two.grow (h : Two w d D m zs wx) (hk : Grow wx wy) : Two w d D m zs wy := ⟨h.a.grow hk, h.r.grow hk, h.g.trans hk⟩
theorem Two.low (h : Two w d D m zs wx) : ∀ k, Own d D k → k < wx.heap.size := fun k hk => by
  have := h.a.lt
  rcases hk with hk | hk <;> omega
theorem Two.fine (h : Two w d D m zs wx) : Fine 32 zs := ⟨h.a.ring.1, h.a.ring.2.1⟩
end
def PLoop (w : World) (d D m M g : Nat) (i : Value) (wr : World) : Prop :=
  ∃ (j : Nat) (zs : List Nat), j + g = M ∧ i = .int .i64 (j : Int) ∧ Two w d D m zs wr

/-! ### STEP 1: THE WALK: the Go text returns true, AND WRITES NOTHING THAT WAS THERE: 'Below w.heap.size w w'' (Derived/Below.lean: '.refl', '.alloc', '.drew', '.setCell' at a new block, '.trans'). Open each 'IsRow' by 'rcases' AHEAD of 'go_enter'; part every test ahead of the walk. -/
set_option maxHeartbeats 4000000 in
theorem walk (a0 : Option Addr) (len0 cap0 : Nat) (z0 : List Int) (a1 : Option Addr) (len1 cap1 : Nat) (z1 : List Int) (w : World) (w0 : IsRow .i64 w a0 len0 cap0 z0) (w1 : IsRow .i64 w a1 len1 cap1 z1) :
    Calls Try.prog 5 #[.slice a0 len0 cap0, .slice a1 len1 cap1] w fun e w' => e = .returned (.bool true) ∧ Below w.heap.size w w' := by
  obtain ⟨hs, hle, hcap, hwf⟩ := Sl.of_isRow w0
  obtain ⟨hs1, hle1, hcap1, hwf1⟩ := Sl.of_isRow w1
  unfold maxLen at hcap hcap1
  generalize z0.take len0 = zs at hs hwf
  generalize z1.take len1 = ts at hs1 hwf1
  have HS := Lib.hid hs
  have HS1 := Lib.hid hs1
  clear hs hwf w0 hs1 hwf1 w1
  have CN := Lib.hid fun (wx : World) => new_good (w := wx) 32 (by omega)
  simp only [Int.cast_ofNat_Int] at CN
  go_enter Try.func5, Try.ntmps5
  by_cases h60 : 60 < len1
  · have h60z : (60 : Int) < (len1 : Int) := by omega
    go_wp2_with (first
      | (go_at_call 18; (with_reducible refine (CN.out _).mono ?_); rintro e w1 ⟨d, D, rfl, hl, hd1, hd2, hg⟩; have G0 := Lib.hid hg; clear hl hd1 hd2 hg)
      | (go_at_call 12; (with_reducible refine (told_any _).mono ?_); rintro e w3 ⟨rfl, hge⟩; have HGE := Lib.hid hge; clear hge))
    go_ret
    exact ⟨rfl, Grow.below ((G0.out.trans ((Kept.refl _ _).alloc _)).trans HGE.out)⟩
  · have h60z : (len1 : Int) ≤ 60 := by omega
    have h60n : len1 ≤ 60 := by omega
    obtain ⟨M, hM1, hM100, hM⟩ : ∃ M, M ≤ len0 ∧ M ≤ 32 ∧ (M = len0 ∨ M = 32) := ⟨min len0 32, Nat.min_le_left _ _, Nat.min_le_right _ _, by omega⟩
    have HMM := Lib.hid hM
    clear hM h60
    go_wp2_with (go_at_call 18; (with_reducible refine (CN.out _).mono ?_); rintro e w2 ⟨d, D, rfl, hl, hd1, hd2, hg⟩; have HL0 := Lib.hid hl; have HD := Lib.hid (And.intro hd1 hd2); have HG0 := Lib.hid hg; clear hl hd1 hd2 hg)
    have hla := HL0.out.lt
    have hda := HD.out
    have hsa := HG0.out.size
    have HAP : Hid (Apart w d D w2.heap.size) := ⟨fun h => by rcases h with h | h <;> omega, fun k h => by rcases h with h | h <;> omega, hsa⟩
    have hga : Grow w2 (w2.alloc (.cells #[.int .i64 32, .slice none 0 0] 44)) := (Kept.refl _ _).alloc _
    have HT0 : Hid (Two w d D w2.heap.size [] (w2.alloc (.cells #[.int .i64 32, .slice none 0 0] 44))) :=
      ⟨HL0.out.grow hga, ⟨⟨none, 0, Row.of_blk (Blk.new w2 _ [.int .i64 32, .slice none 0 0]) rfl (fun i hi => by
        have : i = 0 ∨ i = 1 := by omega
        rcases this with rfl | rfl <;> rfl), Sl.nil _ _ _ _, ⟨Nat.le_refl _, Nat.zero_le _⟩, fun x hx => by cases hx⟩, HAP.out.am⟩, HG0.out.trans hga⟩
    clear hla hda hsa hga HL0 HD HG0 CN
    generalize w2.alloc (.cells #[.int .i64 32, .slice none 0 0] 44) = w3 at HT0 ⊢
    generalize w2.heap.size = m at HAP HT0 ⊢
    go_loopg [7] M (PLoop w d D m M)
    case atStart => exact ⟨0, [], by omega, rfl, HT0.out⟩
    case round =>
      obtain ⟨j, us, hg, rfl, ht⟩ := hrel
      have HG := Lib.hid hg
      have HT := Lib.hid ht
      clear hg ht HT0
      by_cases hj : j < M
      · have hjz : (j : Int) < (len0 : Int) := by omega
        have hj7 : (j : Int) < 32 := by omega
        obtain ⟨K, hmK, hK⟩ := tmod_nat (zs.getD j 0) 32 (by omega)
        simp only [Int.cast_ofNat_Int] at hmK
        obtain ⟨b, o, rfl, hb, hc⟩ := HS.out.at_ (by omega)
        have r1 := HT.out.g.cellN (hc j (by omega)) id
        have hKz : (K : Int) < 32 := by omega
        have HFI := Lib.hid HT.out.fine
        have CA := Lib.hid (back_any HT.out.a (K : Int))
        have CB : Hid (∀ wx, RefAt wx m 32 (Own d D) us → wr.heap.size ≤ wx.heap.size → Calls Try.prog 20 #[.pointer (some ⟨m, 0, none⟩), .int .i64 (K : Int)] wx (RPost m 32 (Own d D) wx (.bool (okF 32 us (K : Int))) (backL 32 us (K : Int)))) := fun wx h hs => rback_any h (K : Int) HFI.out.1 (Nat.le_trans HFI.out.len (by omega)) HFI.out.2 (fun k h => Nat.lt_of_lt_of_le (HT.out.low k h) hs)
        clear hb hc hK
        generalize zs.getD j 0 = x at *
        go_wp2_with (first
          | (go_at_call 19; (with_reducible refine CA.out.mono ?_); rintro e w5 ⟨rfl, hl, hk, _⟩; have HL5 := Lib.hid hl; have HK5 := Lib.hid hk; clear hl hk)
          | (go_at_call 20; (with_reducible refine (CB.out _ (HT.out.r.kept HK5.out (fun _ h => h)) HK5.out.size).mono ?_); rintro e w6 ⟨rfl, hr, hk⟩; have HT6 := Lib.hid (HT.out.op HAP.out HL5.out HK5.out hr hk); clear hr hk))
        go_roundg (M - (j + 1))
        case measure => have := HG.out; omega
        case rel => exact ⟨j + 1, _, by have := HG.out; omega, by go_num, HT6.out⟩
      · obtain rfl : j = M := by have := HG.out; omega
        have h7 : ((j : Int) < (len0 : Int) ∧ 32 ≤ (j : Int)) ∨ (len0 : Int) ≤ (j : Int) := by
          rcases HMM.out with e | e <;> omega
        have HA1 : Hid (∀ x, a1 = some x → 0 < len1 → x.block < w.heap.size) := fun x e h0 => by
          obtain ⟨b, o, e2, hb, _⟩ := HS1.out.at_ h0
          rw [e] at e2
          injection e2 with e2
          rw [e2]
          exact hb
        have HTS := Lib.hid (fun wx (h : Grow w wx) => Sl.kept HS1.out h (Nat.le_refl _) (fun _ _ x => x))
        have HN1 : Hid (0 < len1 → ∀ x, a1 = some x → ¬ Own d D x.block) := fun h0 x e ho => by
          have h1 := HA1.out x e h0
          have h2 := HAP.out.la _ ho
          omega
        have HN2 : Hid (0 < len1 → ∀ x, a1 = some x → x.block ≠ m) := fun h0 x e => by
          have h1 := HA1.out x e h0
          have h2 := HAP.out.lm
          omega
        have HFI := Lib.hid HT.out.fine
        have HLE : Hid ((applyL 32 us ts).length ≤ 100000) := Nat.le_trans (HFI.out.apply ts).len (by omega)
        have CA := Lib.hid (gapply_any HT.out.a cap1 (HTS.out _ HT.out.g) HN1.out (Nat.le_trans h60n (by omega)))
        have CB : Hid (∀ wx, RefAt wx m 32 (Own d D) us → Grow w wx → wr.heap.size ≤ wx.heap.size → Calls Try.prog 22 #[.pointer (some ⟨m, 0, none⟩), .slice a1 len1 cap1] wx fun e w' => e = .returned (.tuple #[]) ∧ RefAt w' m 32 (Own d D) (applyL 32 us ts) ∧ Kept (· = m) wx w') := fun wx h hg hs =>
          rapply_any h HFI.out (by omega) (fun k h => Nat.lt_of_lt_of_le (HT.out.low k h) hs) cap1 (HTS.out _ hg) HN2.out (Nat.le_trans h60n (by omega))
        obtain ⟨vs, hvs⟩ : ∃ vs, vs = applyL 32 us ts := ⟨_, rfl⟩
        rw [← hvs] at CA CB HLE
        obtain ⟨wo, hwo⟩ : ∃ wo, wo = wr := ⟨_, rfl⟩
        subst hwo
        clear hvs hj
        rcases h7 with ⟨h7a, h7b⟩ | h7
        all_goals
          go_upto_region 14 with (first
            | (go_at_call 21; (with_reducible refine CA.out.mono ?_); rintro e w5 ⟨rfl, hl, hk⟩; have HL5 := Lib.hid hl; have HK5 := Lib.hid hk; clear hl hk)
            | (go_at_call 22; (with_reducible refine (CB.out _ (HT.out.r.kept HK5.out (fun _ h => h)) (grow_then HT.out.g HK5.out HAP.out.la) HK5.out.size).mono ?_); rintro e w6 ⟨rfl, hr, hk⟩; have HT6 := Lib.hid (HT.out.op HAP.out HL5.out HK5.out hr hk); clear hr hk))
          refine wp_region_stages Grow (kept_refl _) (kept_trans _) [([], 0), ([1, 2, 4, 5, 6, 7], 3), ([], 8)] [9, 10] (by kernel_rfl) (by kernel_rfl) ?_
          simp only [selSt, sel, List.map_cons, List.map_nil, List.getD_cons_succ, List.getD_cons_zero]
          refine st_cons fun K1 hK1 => wpQuiet_nil ?_
          go_wp2_with (go_at_call 12; (with_reducible refine (told_any _).mono ?_); rintro e w9 ⟨rfl, hge⟩; have HGE := Lib.hid hge; have HT9 := Lib.hid (HT6.out.grow ((Kept.drew' _).trans hge)); clear hge)
          refine norm_up (hK1 _ _ HGE.out (st_cons fun K2 hK2 => ?_))
          clear hK1 K1
          obtain ⟨A, c, hrow, hsl, _, _⟩ := HT9.out.r.hd
          have hcc := hrow.cell (i := 1) (by omega)
          simp only [Nat.one_ne_zero, if_false] at hcc
          have u1 := up_cell (F := fun _ => False) (w := w9) hcc id
          have HSL := Lib.hid hsl
          clear hrow hsl hcc
          repeat (go_big_quiet_step (fail))
          refine wpQuiet_nil ?_
          clear u1
          go_wp2_with (go_at_call 23; (with_reducible refine (all_any HT9.out.a).mono ?_); rintro e w10 ⟨A3, c3, rfl, hs, _, hk⟩; have HK10 := Lib.hid hk; have HS10 := Lib.hid hs; have HS11 := Lib.hid (Sl.kept HSL.out hk (Nat.le_refl _) (fun _ _ x => x)); clear hs hk)
          refine norm_up (hK2 _ _ HK10.out (st_cons fun K3 hK3 => wpQuiet_nil ?_))
          clear hK2 K2
          go_wp2_with (go_at_call 13; (with_reducible refine (ints_true A3 A vs.length c3 c _ _ _ HLE.out HS10.out HS11.out).mono ?_); rintro e w12 ⟨rfl, hk⟩; have HK12 := Lib.hid hk; clear hk)
          refine norm_up (hK3 _ _ HK12.out (st_nil fun K4 hK4 => ?_))
          clear hK3 K3
          repeat (go_big_quiet_step (fail))
          refine wpQuiet_nil (hK4 _ ?_)
          clear hK4 K4
          go_wp2
          go_ret
          exact ⟨rfl, Grow.below ((HT9.out.g.trans HK10.out).trans HK12.out)⟩

/-! ### THE ROW's STEP: WRITTEN OUT: LEAVE IT -/
set_option maxRecDepth 100000 in
theorem lifted (os : Os) (started : os.Started) (H : Type) (enc : TypeId × Value → H) :
    ReturnsInHanded {} Try.checked os 5 .any (Rows.ringAppliesSpec.pre6 enc Try.prog Try.f5 Rows.ringAppliesRow.domain false) (Rows.ringAppliesSpec.post enc Try.prog Try.f5 false true false false) := by
  refine returnsInHanded_of_change (C := Try.checked) own started (by kernel_rfl) Try.func5
    (ChangeSpec.witness6 (enc := enc) (C := Try.checked) false ⟨#[], #[.slice none 0 0, .slice none 0 0], []⟩ 8 (by kernel_rfl) (by kernel_rfl) (by kernel_rfl) (by kernel_rfl)) ?_
  intro W base args ds gs before hval0 hW hcnd _
  have hval : ∀ (j : Nat) t v, Try.f5.params[j]? = some t → args[j]? = some v → Value.okWide Try.prog W .any base t v := hval0
  have hW' := hW
  obtain ⟨p, q, hA0, hV, rfl, hfz, hnd⟩ := hW
  have hA : DataW.TrodAll enc Try.prog W 0 (fun _ => true) true Try.f5.params.toList args.toList ds p := hA0
  rw [Try.params5] at hA hval
  obtain ⟨v0, vs0, d0, ds0, p0, q0, hargs, rfl, rfl, h0, r0⟩ := trodAll_cons hA
  obtain ⟨v1, vs1, d1, ds1, p1, q1, rfl, rfl, rfl, h1, r1⟩ := trodAll_cons r0
  obtain ⟨rfl, rfl, rfl⟩ := trodAll_nil r1
  obtain rfl : args = #[v0, v1] := by cases args; simp_all
  obtain ⟨rfl, rfl⟩ := trodVars_none hV
  obtain ⟨a0, len0, cap0, rfl⟩ := okWide_slice Try.underlying22 (hval 0 22 v0 rfl rfl)
  have k0 := h0
  have lt0 : ∀ x ∈ p0, x.block < W.heap.size := by obtain ⟨m, hm⟩ := k0; exact DataW.trod_lt m _ _ _ hm
  obtain ⟨z0, w0⟩ : ∃ zs, IsRow .i64 W a0 len0 cap0 zs := by
    obtain ⟨fuel, hf⟩ := h0
    rcases open_ints Try.underlying22 Try.underlying3 (by kernel_rfl) hf with ⟨hcs, _⟩ | ⟨x, l, c, zs, hcs, _, hl, hm, hz, _, hcell, hwz⟩
    · simp [Value.cells] at hcs
      obtain ⟨rfl, rfl, rfl⟩ := hcs
      exact ⟨[], .inl ⟨rfl, rfl, rfl, rfl⟩⟩
    · simp [Value.cells] at hcs
      obtain ⟨rfl, rfl, rfl⟩ := hcs
      exact ⟨zs, .inr ⟨_, rfl, hl, hm, by simpa using hz, hcell, hwz⟩⟩
  obtain ⟨a1, len1, cap1, rfl⟩ := okWide_slice Try.underlying22 (hval 1 22 v1 rfl rfl)
  have k1 := h1
  have lt1 : ∀ x ∈ p1, x.block < W.heap.size := by obtain ⟨m, hm⟩ := k1; exact DataW.trod_lt m _ _ _ hm
  obtain ⟨z1, w1⟩ : ∃ zs, IsRow .i64 W a1 len1 cap1 zs := by
    obtain ⟨fuel, hf⟩ := h1
    rcases open_ints Try.underlying22 Try.underlying3 (by kernel_rfl) hf with ⟨hcs, _⟩ | ⟨x, l, c, zs, hcs, _, hl, hm, hz, _, hcell, hwz⟩
    · simp [Value.cells] at hcs
      obtain ⟨rfl, rfl, rfl⟩ := hcs
      exact ⟨[], .inl ⟨rfl, rfl, rfl, rfl⟩⟩
    · simp [Value.cells] at hcs
      obtain ⟨rfl, rfl, rfl⟩ := hcs
      exact ⟨zs, .inr ⟨_, rfl, hl, hm, by simpa using hz, hcell, hwz⟩⟩
  clear hA0 hval0
  refine (walk a0 len0 cap0 z0 a1 len1 cap1 z1 W w0 w1).mono fun e W' ⟨he, bel⟩ => ?_
  subst he
  exact ⟨_, rfl, _, _, _, [], _, [], hW', trodAll_mk1 (shut_bool Try.underlying4 _), (trodAll_cons_mk (Below.trod laidOut (by kernel_rfl) (of_decide_eq_true (by kernel_rfl)) k0 bel lt0) (trodAll_cons_mk (Below.trod laidOut (by kernel_rfl) (of_decide_eq_true (by kernel_rfl)) k1 bel lt1) trodAll_mk0)), rfl, bel.frame _, fun h => by cases h⟩

theorem over : Rows.ringAppliesRow.holds Try.pinned (OpenSpec.ofChange Rows.ringAppliesSpec) :=
  OpenClaim.holds_of_wide 5 Try.f5 rfl rfl rfl rfl rfl rfl rfl ⟨rfl, rfl, rfl, rfl, rfl⟩ rfl rfl rfl rfl rfl (by kernel_rfl) Try.func5 (by kernel_rfl)
    (of_decide_eq_true (by kernel_rfl)) (by unfold Func.isWrapper; first | (rw [if_pos (by decide +kernel)]; kernel_rfl) | (rw [if_neg (by decide +kernel)]; exact ⟨rfl, rfl⟩))
    (fun os started H enc _ => lifted os started H enc)

/-- ████ THE STATEMENT ████ -/
theorem proved : Rows.RingAppliesSaid := over
#print axioms proved
end Go.Proofs.Ytodmjclkfadooaa.ringApplies
