/-
  For every input the call of lavabolaw8.RingForgets returns true and leaves its arguments as they were; no condition.
-/
import Derived.Test.YtodmjclkfadooaaTold8
import Derived.Test.YtodmjclkfadooaaOwn
import Derived.Test.YtodmjclkfadooaaRows
import Derived.WalkKit
import Derived.ProofKit
import Derived.OpenShut
import Derived.ShutString
import Derived.ChangeOld
import Derived.Below
namespace Go.Proofs.Ytodmjclkfadooaa.ringForgets
open Go.ChangeShapes Go.WideShapes Go.ChangeAt Go.RowKit
open Go.ChangeMaps (open_string shut_string)
open Go.Conc
open Go.Proofs.Ytodmjclkfadooaa.Mem Go.Proofs.Ytodmjclkfadooaa.Blk Go.Proofs.Ytodmjclkfadooaa.Chan Go.Proofs.Ytodmjclkfadooaa.RingC Go.Proofs.Ytodmjclkfadooaa.RingD Go.Proofs.Ytodmjclkfadooaa.RingT Go.Proofs.Ytodmjclkfadooaa.RingF Go.Proofs.Ytodmjclkfadooaa.Own Go.Proofs.Ytodmjclkfadooaa.Told8 Go.Proofs.Ytodmjclkfadooaa.Stages
set_option linter.unusedVariables false

theorem own : ownKnob Try.prog.godebug = none := by kernel_rfl
theorem laidOut : laidOutB Try.prog = true := by kernel_rfl

/-- WHAT THE WALK IS TOLD OF A SLICE OF INTEGERS THAT CAME IN: it is nil; or it leads to a row of 'cap' cells, the numbers 'zs' (the first 'len' are its elements, the rest its spare room), each fitting its kind. -/
def IsRow (k : IntKind) (w : World) (a : Option Addr) (len cap : Nat) (zs : List Int) : Prop :=
  (a = none ∧ len = 0 ∧ cap = 0 ∧ zs = []) ∨
  ∃ x, a = some x ∧ len ≤ cap ∧ cap ≤ maxLen ∧ zs.length = cap ∧ (∀ i, i < zs.length → w.cell? (x.add i) = some (.int k (zs.getD i 0))) ∧ ∀ n ∈ zs, (Lit.int k n).wf = true

/-- The first j touches. -/
def xs (f : Nat → Int) (j : Nat) : List Int := (List.range j).map f
theorem xs_len (f : Nat → Int) (j : Nat) : (xs f j).length = j := by simp [xs]
theorem xs_succ (f : Nat → Int) (j : Nat) : xs f (j + 1) = xs f j ++ [f j] := by unfold xs; rw [List.range_succ, List.map_append]; rfl
theorem keep_eq {zs : List Int} {x k : Int} (h : x = k) : keepBy (zs ++ [x]) k = keepBy zs k := by
  unfold keepBy
  rw [List.filter_append, List.filter_cons_of_neg (by simpa using h)]
  simp
theorem keep_ne {zs : List Int} {x k : Int} (h : x ≠ k) : keepBy (zs ++ [x]) k = keepBy zs k ++ [x] := by
  unfold keepBy
  rw [List.filter_append, List.filter_cons_of_pos (by simpa using h)]
  simp
theorem xs_step {f : Nat → Int} {j : Nat} (hj : j < 7) (h0 : 0 ≤ f j) (h1 : f j < 5) : toldBy (xs f j) (f j) = [] ∧ waitBy (xs f j) (f j) = xs f (j + 1) ∧ (xs f j).length ≤ 7 := by
  have hok : okT (f j) = true := by
    unfold okT
    rw [Bool.and_eq_true, decide_eq_true_eq, decide_eq_true_eq]
    omega
  have hl := xs_len f j
  refine ⟨?_, ?_, by omega⟩
  · unfold toldBy
    rw [hok, hl, Bool.true_and, if_neg (by rw [decide_eq_true_eq]; omega)]
  · unfold waitBy
    rw [if_pos hok, hl, if_neg (by omega), xs_succ]
def FLoop (w w1 : World) (B : Nat) (f : Nat → Int) (k : Int) (M g : Nat) (want n i : Value) (wr : World) : Prop :=
  ∃ j : Nat, j + g = M ∧ i = .int .i64 (j : Int) ∧ n = .int .i64 (j : Int) ∧ wr.ownsRow w1.heap.size 3 1 want (keepBy (xs f j) k).length (vals (keepBy (xs f j) k)) ∧ RingAt wr B B (xs f j) ∧ Grow w wr ∧ w1.heap.size ≤ wr.heap.size

/-! ### STEP 1: THE WALK: the Go text returns true, AND WRITES NOTHING THAT WAS THERE: 'Below w.heap.size w w'' (Derived/Below.lean: '.refl', '.alloc', '.drew', '.setCell' at a new block, '.trans'). Open each 'IsRow' by 'rcases' AHEAD of 'go_enter'; part every test ahead of the walk. -/
set_option maxHeartbeats 4000000 in
theorem walk (a0 : Option Addr) (len0 cap0 : Nat) (z0 : List Int) (a1 : Int) (w : World) (w0 : IsRow .i64 w a0 len0 cap0 z0) (w1 : (Lit.int .i64 a1).wf = true) :
    Calls Try.prog 3 #[.slice a0 len0 cap0, .int .i64 a1] w fun e w' => e = .returned (.bool true) ∧ Below w.heap.size w w' := by
  obtain ⟨hs, hle, hcap, hwf⟩ := Sl.of_isRow w0
  unfold maxLen at hcap
  have k1 := bounds_i64 w1
  generalize z0.take len0 = zs at hs hwf
  have HS := Lib.hid hs
  clear hs hwf w0
  obtain ⟨W, hW, hW5⟩ := tmod_nat a1 5 (by omega)
  simp only [Int.cast_ofNat_Int] at hW
  have hWz : (W : Int) < 5 := by omega
  clear hW5
  obtain ⟨M, hM1, hM7, hM⟩ : ∃ M, M ≤ len0 ∧ M ≤ 7 ∧ (M = len0 ∨ M = 7) := ⟨min len0 7, Nat.min_le_left _ _, Nat.min_le_right _ _, by omega⟩
  obtain ⟨f, hf⟩ : ∃ f : Nat → Int, f = fun t => (IntKind.u64.wrap (zs.getD t 0)).tmod 5 := ⟨_, rfl⟩
  have HF : Hid (∀ t, ∃ K : Nat, f t = (K : Int) ∧ (IntKind.u64.wrap (zs.getD t 0)).tmod 5 = (K : Int) ∧ K < 5) := fun t => by
    obtain ⟨K, h1, h2⟩ := tmod_nat (zs.getD t 0) 5 (by omega)
    simp only [Int.cast_ofNat_Int] at h1
    exact ⟨K, by rw [hf]; exact h1, h1, h2⟩
  clear hf
  have HMM := Lib.hid hM
  clear hM
  go_enter Try.func3, Try.ntmps3
  go_wp2_with (go_at_call 8; (with_reducible refine gnew_any.mono ?_); rintro e w2 ⟨rfl, hr, hg⟩; have HR := Lib.hid (hr _ (Nat.le_refl _)); have HG0 := Lib.hid hg; clear hr hg)
  generalize hB : w.heap.size = B at HR ⊢
  have HB := Lib.hid hB
  have HB2 : Hid (B < w2.heap.size) := HR.out.lt
  clear hB k1
  go_loopg [7, 8, 9] M (FLoop w w2 B f (W : Int) M)
  case atStart => exact ⟨0, by omega, rfl, rfl, World.ownsRow_nil _ _ _ _, HR.out, HG0.out, Nat.le_refl _⟩
  case round =>
    obtain ⟨j, hg, rfl, rfl, ho, hr, hk, hsz⟩ := hrel
    have HG := Lib.hid hg
    have HO := Lib.hid ho
    have HRR := Lib.hid hr
    have HK := Lib.hid hk
    have HSZ := Lib.hid hsz
    clear hg ho hr hk hsz HR
    by_cases hj : j < M
    · have hjz : (j : Int) < (len0 : Int) := by omega
      have hj7 : (j : Int) < 7 := by omega
      obtain ⟨K, hfK, hmK, hK5⟩ := HF.out j
      obtain ⟨h1, h2, h3⟩ := xs_step (f := f) (j := j) (by omega) (by omega) (by omega)
      have HT := Lib.hid (t_touch HRR.out _ h3 h1 h2)
      rw [hfK] at HT
      obtain ⟨b, o, rfl, hb, hc⟩ := HS.out.at_ (by omega)
      have r1 := HK.out.cellN (hc j (by omega)) id
      have hKz : (K : Int) < 5 := by omega
      have HOD : Hid (∀ wx, Kept (RF B B wr) wr wx → wx.ownsRow w2.heap.size 3 1 u7 (keepBy (xs f j) (W : Int)).length (vals (keepBy (xs f j) (W : Int)))) := fun wx hk => RF.own hk HO.out fun e => by have := (HO.out.lt B e).1; have := HB2.out; omega
      have HGW : Hid (∀ wx, Kept (RF B B wr) wr wx → Grow w wx) := fun wx hk => RF.final HK.out hk (by have := HB.out; omega) (by have := HB.out; omega)
      have HLN : Hid ((keepBy (xs f j) (W : Int)).length ≤ 7) := by
        have h1 := keep_len (xs f j) (W : Int)
        rw [xs_len] at h1
        show _ ≤ _
        omega
      have HXE := Lib.hid (keep_eq (zs := xs f j) (x := (K : Int)) (k := (W : Int)))
      have HXN := Lib.hid (keep_ne (zs := xs f j) (x := (K : Int)) (k := (W : Int)))
      have HXS : Hid (xs f (j + 1) = xs f j ++ [(K : Int)]) := by show _ = _; rw [xs_succ, hfK]
      clear h1 h2 h3 hb hc hfK hK5
      generalize zs.getD j 0 = x at *
      by_cases hx : (K : Int) = (W : Int)
      · have he := HXE.out hx
        have HE : Hid (keepBy (xs f (j + 1)) (W : Int) = keepBy (xs f j) (W : Int)) := by show _ = _; rw [HXS.out, he]
        rw [hx] at HT
        clear he HXE HXN
        go_wp2_with (go_at_call 9; (with_reducible refine HT.out.mono ?_); rintro e w3 ⟨A2, c2, rfl, hs, hn, hr, hk⟩; have HR2 := Lib.hid hr; have HK2 := Lib.hid hk; clear hs hn hr hk)
        go_roundg (M - (j + 1))
        case measure => have := HG.out; omega
        case rel => exact ⟨j + 1, by have := HG.out; omega, by go_num, by go_num, by rw [HE.out]; exact HOD.out _ HK2.out, HR2.out, HGW.out _ HK2.out, Nat.le_trans HSZ.out HK2.out.size⟩
      · have he := HXN.out hx
        have HE : Hid (keepBy (xs f (j + 1)) (W : Int) = keepBy (xs f j) (W : Int) ++ [(K : Int)]) := by show _ = _; rw [HXS.out, he]
        have hx' : ((K : Int) != (W : Int)) = true := by rw [bne_iff_ne]; exact hx
        clear he HXE HXN
        go_wp2_with (first
          | (go_at_call 9; (with_reducible refine HT.out.mono ?_); rintro e w3 ⟨A2, c2, rfl, hs, hn, hr, hk⟩; have HR2 := Lib.hid hr; have HK2 := Lib.hid hk; have HO2 := Lib.hid (HOD.out _ hk); have hsz3 : w2.heap.size ≤ w3.heap.size := Nat.le_trans HSZ.out hk.size; have hln := HLN.out; clear hs hn hr hk)
          | (at_builtin; refine wpList_append_kept rfl (.tmp 48) (.tmp 50) 22 rfl w2.heap.size 3 (.int .i64 0) 8 Try.underlying22 infoI rfl _ _ _ rfl (World.ownsRow.alloc HO2.out _) w3.heap.size (.int .i64 (K : Int)) rfl (cell_new1 _ _ _) rfl (by unfold maxLen; omega) (by omega) (by simp; omega) ?_; intro g cap w4 hown hkp; have HOW := Lib.hid hown; have HKW := Lib.hid hkp; clear hown hkp))
        go_roundg (M - (j + 1))
        case measure => have := HG.out; omega
        case rel =>
          refine ⟨j + 1, by have := HG.out; omega, by go_num, by go_num, ?_, ?_, ?_, ?_⟩
          · rw [HE.out, List.length_append]
            simpa using HOW.out
          · have ha : Grow w3 (w3.alloc (.cells #[.int .i64 (K : Int)] 3)) := (Kept.refl _ _).alloc _
            exact ring_beside (HR2.out.grow ha) (World.ownsRow.alloc HO2.out _) HB2.out HKW.out
          · have ha : Grow w (w3.alloc (.cells #[.int .i64 (K : Int)] 3)) := (HGW.out _ HK2.out).alloc _
            exact ha.then HKW.out fun k hk e => by have h1 := (HO2.out.lt k e).1; have h2 := HB2.out; have h3 := HB.out; omega
          · exact Nat.le_trans (by simpa using hsz3) (Nat.le_trans (by simp) HKW.out.size)
    · obtain rfl : j = M := by have := HG.out; omega
      have hck := cnt_keep (W : Int) (xs f j)
      rw [xs_len] at hck
      have CF := Lib.hid (gforget_any HRR.out (W : Int))
      obtain ⟨cn, hcn⟩ : ∃ cn, cn = cntBy (xs f j) (W : Int) := ⟨_, rfl⟩
      obtain ⟨us, hus⟩ : ∃ us, us = keepBy (xs f j) (W : Int) := ⟨_, rfl⟩
      rw [← hcn, ← hus] at CF
      rw [← hus] at HO
      rw [← hcn, ← hus] at hck
      have hckz : (cn : Int) = (j : Int) - (us.length : Int) := by omega
      have huz : (us.length : Int) ≤ 7 := by omega
      have HUN : Hid (us.length ≤ 7) := by show us.length ≤ 7; omega
      obtain ⟨A, c, rfl, hsl⟩ := Sl.of_row1 (n := us.length) HO.out
      have HAB : Hid (∀ x, A = some x → x.block ≠ B) := fun x e => by
        have h1 := (HO.out.lt x.block (by rw [e]; rfl)).1
        have := HB2.out
        omega
      have HSW : Hid (∀ wx, Kept (RF B B wr) wr wx → Sl wx wx.heap.size .i64 A us.length us) := fun wx hk => (RF.sl hk hsl HAB.out).more hk.size
      have HGW : Hid (∀ wx, Kept (RF B B wr) wr wx → Grow w wx) := fun wx hk => RF.final HK.out hk (by have := HB.out; omega) (by have := HB.out; omega)
      have HCN0 : Hid ((cntBy [] (W : Int) : Int) = 0 ∧ keepBy [] (W : Int) = []) := ⟨rfl, rfl⟩
      obtain ⟨wo, hwo⟩ : ∃ wo, wo = wr := ⟨_, rfl⟩
      subst hwo
      clear hcn hus hck hsl
      have h7 : ((j : Int) < (len0 : Int) ∧ 7 ≤ (j : Int)) ∨ (len0 : Int) ≤ (j : Int) := by
        rcases HMM.out with e | e <;> omega
      rcases h7 with ⟨h7a, h7b⟩ | h7
      all_goals
        go_wp2_with (first
          | (go_at_call 10; (with_reducible refine CF.out.mono ?_); rintro e w3 ⟨rfl, hr, hk⟩; have HR3 := Lib.hid hr; have HK3 := Lib.hid hk; clear hr hk)
          | (go_at_call 11; (with_reducible refine (gdrain_any HR3.out).mono ?_); rintro e w4 ⟨A4, c4, rfl, hs, hn, hr, hk⟩; have HS4 := Lib.hid hs; have HR4 := Lib.hid hr; have HK4 := Lib.hid (RF.trans HK3.out hk); clear hs hn hr hk))
        have HSA := Lib.hid (HSW.out _ HK4.out)
        have HG4 := Lib.hid (HGW.out _ HK4.out)
        go_loopg [13] us.length (fun gx i wx => ∃ t : Nat, t + gx = us.length ∧ i = .int .i64 (t : Int) ∧ Grow w4 wx)
        case atStart => exact ⟨0, by omega, rfl, Kept.refl _ _⟩
        case round =>
          obtain ⟨t, hg, rfl, hgr⟩ := hrel
          have HGT := Lib.hid hg
          have HGR := Lib.hid hgr
          clear hg hgr
          by_cases ht : t < us.length
          · have htz : (t : Int) < (us.length : Int) := by omega
            obtain ⟨b1, o1, rfl, _, hc1⟩ := HSA.out.at_ (by omega)
            obtain ⟨b2, o2, rfl, _, hc2⟩ := HS4.out.at_ (by omega)
            have r1 := HGR.out.cellN (hc1 t ht) id
            have r2 := HGR.out.cellN (hc2 t ht) id
            generalize us.getD t 0 = y at *
            have q1 := up_cell (F := fun _ => False) (w := wr.drew) r1 id
            have q2 := up_cell (F := fun _ => False) (w := wr.drew) r2 id
            clear hc1 hc2 r1 r2
            go_upto_region 23 with (fail)
            refine wp_region_stages Grow (kept_refl _) (kept_trans _) [] [0, 1, 2, 3, 4, 5, 6, 7, 8] (by kernel_rfl) (by kernel_rfl) ?_
            simp only [selSt, sel, List.map_cons, List.map_nil, List.getD_cons_succ, List.getD_cons_zero]
            refine st_nil fun K2 hK2 => ?_
            repeat (go_big_quiet_step (fail))
            refine wpQuiet_nil (hK2 _ ?_)
            clear hK2 K2 q1 q2
            go_wp2
            go_roundg (us.length - (t + 1))
            case measure => have := HGT.out; omega
            case rel => exact ⟨t + 1, by omega, by go_num, HGR.out.drew⟩
          · obtain rfl : t = us.length := by have := HGT.out; omega
            have CF2 : Hid (∀ wx, Grow w4 wx → Calls Try.prog 10 #[.pointer (some ⟨B, 0, none⟩), .int .i64 (W : Int)] wx fun e w' => e = .returned (.int .i64 0) ∧ Kept (RF B B wx) wx w') := fun wx hg => by
              refine (gforget_any (HR4.out.grow hg) (W : Int)).mono ?_
              rintro e w' ⟨rfl, _, hk⟩
              exact ⟨rfl, hk⟩
            go_wp2_with (first
              | (go_at_call 12; (with_reducible refine (told_any _).mono ?_); rintro e w5 ⟨rfl, hge⟩; have HGE := Lib.hid hge; clear hge)
              | (go_at_call 10; (with_reducible refine (CF2.out _ (HGR.out.trans HGE.out)).mono ?_); rintro e w6 ⟨rfl, hk⟩; have HK6 := Lib.hid hk; clear hk))
            go_ret
            exact ⟨rfl, Grow.below (RF.final ((HG4.out.trans HGR.out).trans HGE.out) HK6.out (by have := HB.out; omega) (by have := HB.out; omega))⟩

/-! ### THE ROW's STEP: WRITTEN OUT: LEAVE IT -/
set_option maxRecDepth 100000 in
theorem lifted (os : Os) (started : os.Started) (H : Type) (enc : TypeId × Value → H) :
    ReturnsInHanded {} Try.checked os 3 .any (Rows.ringForgetsSpec.pre6 enc Try.prog Try.f3 Rows.ringForgetsRow.domain false) (Rows.ringForgetsSpec.post enc Try.prog Try.f3 false true false false) := by
  refine returnsInHanded_of_change (C := Try.checked) own started (by kernel_rfl) Try.func3
    (ChangeSpec.witness6 (enc := enc) (C := Try.checked) false ⟨#[], #[.slice none 0 0, .int .i64 0], []⟩ 8 (by kernel_rfl) (by kernel_rfl) (by kernel_rfl) (by kernel_rfl)) ?_
  intro W base args ds gs before hval0 hW hcnd _
  have hval : ∀ (j : Nat) t v, Try.f3.params[j]? = some t → args[j]? = some v → Value.okWide Try.prog W .any base t v := hval0
  have hW' := hW
  obtain ⟨p, q, hA0, hV, rfl, hfz, hnd⟩ := hW
  have hA : DataW.TrodAll enc Try.prog W 0 (fun _ => true) true Try.f3.params.toList args.toList ds p := hA0
  rw [Try.params3] at hA hval
  obtain ⟨v0, vs0, d0, ds0, p0, q0, hargs, rfl, rfl, h0, r0⟩ := trodAll_cons hA
  obtain ⟨v1, vs1, d1, ds1, p1, q1, rfl, rfl, rfl, h1, r1⟩ := trodAll_cons r0
  obtain ⟨rfl, rfl, rfl⟩ := trodAll_nil r1
  obtain rfl : args = #[v0, v1] := by cases args; simp_all
  obtain ⟨rfl, rfl⟩ := trodVars_none hV
  obtain ⟨a0, len0, cap0, rfl⟩ := okWide_slice Try.underlying22 (hval 0 22 v0 rfl rfl)
  have k0 := h0
  have lt0 : ∀ x ∈ p0, x.block < W.heap.size := by obtain ⟨m, hm⟩ := k0; exact DataW.trod_lt m _ _ _ hm
  obtain ⟨z0, w0⟩ : ∃ zs, IsRow .i64 W a0 len0 cap0 zs := by
    obtain ⟨fuel, hf⟩ := h0
    rcases open_ints Try.underlying22 Try.underlying3 (by kernel_rfl) hf with ⟨hcs, _⟩ | ⟨x, l, c, zs, hcs, _, hl, hm, hz, _, hcell, hwz⟩
    · simp [Value.cells] at hcs
      obtain ⟨rfl, rfl, rfl⟩ := hcs
      exact ⟨[], .inl ⟨rfl, rfl, rfl, rfl⟩⟩
    · simp [Value.cells] at hcs
      obtain ⟨rfl, rfl, rfl⟩ := hcs
      exact ⟨zs, .inr ⟨_, rfl, hl, hm, by simpa using hz, hcell, hwz⟩⟩
  obtain ⟨a1, rfl, rfl, rfl, w1⟩ := open_int Try.underlying3 (hval 1 3 v1 rfl rfl) h1
  clear hA0 hval0
  refine (walk a0 len0 cap0 z0 a1 W w0 w1).mono fun e W' ⟨he, bel⟩ => ?_
  subst he
  exact ⟨_, rfl, _, _, _, [], _, [], hW', trodAll_mk1 (shut_bool Try.underlying4 _), (trodAll_cons_mk (Below.trod laidOut (by kernel_rfl) (of_decide_eq_true (by kernel_rfl)) k0 bel lt0) (trodAll_cons_mk (shut_int Try.underlying3 w1) trodAll_mk0)), rfl, bel.frame _, fun h => by cases h⟩

theorem over : Rows.ringForgetsRow.holds Try.pinned (OpenSpec.ofChange Rows.ringForgetsSpec) :=
  OpenClaim.holds_of_wide 3 Try.f3 rfl rfl rfl rfl rfl rfl rfl ⟨rfl, rfl, rfl, rfl, rfl⟩ rfl rfl rfl rfl rfl (by kernel_rfl) Try.func3 (by kernel_rfl)
    (of_decide_eq_true (by kernel_rfl)) (by unfold Func.isWrapper; first | (rw [if_pos (by decide +kernel)]; kernel_rfl) | (rw [if_neg (by decide +kernel)]; exact ⟨rfl, rfl⟩))
    (fun os started H enc _ => lifted os started H enc)

/-- ████ THE STATEMENT ████ -/
theorem proved : Rows.RingForgetsSaid := over
#print axioms proved
end Go.Proofs.Ytodmjclkfadooaa.ringForgets
