/-
  For every input the call of lavabolaw3.DiskFails returns true and leaves its arguments as they were; no condition.
-/
import Derived.Test.YtfjcbcpfhjaeeaaDevSteps
import Derived.Test.YtfjcbcpfhjaeeaaRows
import Derived.WalkKit
import Derived.ProofKit
import Derived.OpenShut
import Derived.ShutString
import Derived.ChangeOld
import Derived.Below
namespace Go.Proofs.Ytfjcbcpfhjaeeaa.diskFails
open Go.ChangeShapes Go.WideShapes Go.ChangeAt Go.RowKit
open Go.ChangeMaps (open_string shut_string)
open Go.Proofs.Ytfjcbcpfhjaeeaa.SumM Go.Proofs.Ytfjcbcpfhjaeeaa.Mem Go.Proofs.Ytfjcbcpfhjaeeaa.Blk Go.Proofs.Ytfjcbcpfhjaeeaa.PageM Go.Proofs.Ytfjcbcpfhjaeeaa.Str Go.Proofs.Ytfjcbcpfhjaeeaa.Dev Go.Proofs.Ytfjcbcpfhjaeeaa.LibC Go.Proofs.Ytfjcbcpfhjaeeaa.DevC Go.Proofs.Ytfjcbcpfhjaeeaa.DevM Go.Proofs.Ytfjcbcpfhjaeeaa.DevY Go.Proofs.Ytfjcbcpfhjaeeaa.DevK Go.Proofs.Ytfjcbcpfhjaeeaa.DevX Go.Proofs.Ytfjcbcpfhjaeeaa.DevN Go.Proofs.Ytfjcbcpfhjaeeaa.Told3 Go.Proofs.Ytfjcbcpfhjaeeaa.DevS Go.Proofs.Ytfjcbcpfhjaeeaa.Stages
set_option linter.unusedVariables false

theorem own : ownKnob Try.prog.godebug = none := by kernel_rfl
theorem laidOut : laidOutB Try.prog = true := by kernel_rfl

/-- WHAT THE WALK IS TOLD OF A SLICE OF INTEGERS THAT CAME IN: it is nil; or it leads to a row of 'cap' cells, the numbers 'zs' (the first 'len' are its elements, the rest its spare room), each fitting its kind. -/
def IsRow (k : IntKind) (w : World) (a : Option Addr) (len cap : Nat) (zs : List Int) : Prop :=
  (a = none ∧ len = 0 ∧ cap = 0 ∧ zs = []) ∨
  ∃ x, a = some x ∧ len ≤ cap ∧ cap ≤ maxLen ∧ zs.length = cap ∧ (∀ i, i < zs.length → w.cell? (x.add i) = some (.int k (zs.getD i 0))) ∧ ∀ n ∈ zs, (Lit.int k n).wf = true

/-- The device ahead of access i, if access k is to fail; 'last' is what was written last. -/
def FS (k i : Nat) (last : Int) (S : Dv) : Prop := S.N = 1 ∧ S.n + 1 = i ∧ S.bad = k + 1 - i ∧ S.down = false ∧ cur S 0 = ofB last
theorem FS.acc {k i : Nat} {last : Int} {S : Dv} (h : FS k i last S) : FS k (i + 1) last (accS S) := by
  obtain ⟨h1, h2, h3, h4, h5⟩ := h
  obtain ⟨a1, a2, a3⟩ := accS_up h4
  exact ⟨by rw [accS_N]; exact h1, by omega, by omega, a3, by rw [cur_acc]; exact h5⟩
theorem FS.put {k i : Nat} {last c : Int} {S : Dv} (h : FS k i last S) : FS k i c (putS S 0 (ofB c)) :=
  ⟨h.1, h.2.1, h.2.2.1, h.2.2.2.1, by rw [cur_put, if_pos rfl]⟩
theorem FS.hit {k i : Nat} {last : Int} {S : Dv} (h : FS k i last S) (hi : 1 ≤ i) (e : i = k) : accC S = 9 := by
  rw [accC_up h.2.2.2.1, if_pos (by have := h.2.2.1; omega)]
theorem FS.miss {k i : Nat} {last : Int} {S : Dv} (h : FS k i last S) (e : i ≠ k) : accC S = 0 := by
  rw [accC_up h.2.2.2.1, if_neg (by have := h.2.2.1; omega)]
/-- The loop's state. -/
def FInv (w w1 : World) (d D W k g : Nat) (l i : Value) (wr : World) : Prop :=
  ∃ (j : Nat) (last : Int) (S : Dv), j + g = 21 ∧ 1 ≤ j ∧ i = .int .i64 (j : Int) ∧ l = .int .u8 last ∧ U8 last ∧ DevAt wr d D W (newG w d D W) S ∧ FS k j last S ∧ Kept (Own d D W) w1 wr

/-! ### STEP 1: THE WALK: the Go text returns true, AND WRITES NOTHING THAT WAS THERE: 'Below w.heap.size w w'' (Derived/Below.lean: '.refl', '.alloc', '.drew', '.setCell' at a new block, '.trans'). Open each 'IsRow' by 'rcases' AHEAD of 'go_enter'; part every test ahead of the walk. -/
set_option maxHeartbeats 2000000 in
set_option maxRecDepth 100000 in
theorem walk (a0 : Int) (w : World) (w0 : (Lit.int .i64 a0).wf = true) :
    Calls Try.prog 5 #[.int .i64 a0] w fun e w' => e = .returned (.bool true) ∧ Below w.heap.size w w' := by
  have k0 := bounds_i64 w0
  obtain ⟨k, hk, hk21⟩ := tmod_nat a0 21 (by omega)
  simp only [Int.cast_ofNat_Int] at hk
  have hkz : (k : Int) < 21 := by omega
  go_enter Try.func5, Try.ntmps5
  go_upto_region 3 with (go_at_call 8; (with_reducible refine (new_int 1 1 _ (by omega) (by omega) (by omega)).mono ?_); rintro e w1 ⟨d, D, W, rfl, hdev, hold, hgr⟩; have HD1 := Lib.hid hdev; have HOLD := Lib.hid hold; have HG1 := Lib.hid hgr; clear hdev hold hgr)
  have HLOW := Lib.hid (newG_low HD1.out HG1.out.size)
  have C3 := Lib.hid (fail_any HD1.out (k : Int))
  rw [show failB (k : Int) = true by simp [failB]; omega] at C3
  clear hk
  go_wp2_with (go_at_call 18; (with_reducible refine C3.out.mono ?_); rintro e w2 ⟨rfl, hdev, hkp⟩; have HD2 := Lib.hid hdev; have HK2 := Lib.hid hkp; clear hdev hkp)
  clear C3
  have hfb : failB (k : Int) = true := by simp [failB]; omega
  have HF2 : Hid (FS k 1 0 (failS (newS 1) (k : Int))) := by
    unfold failS
    rw [if_pos hfb]
    exact ⟨rfl, rfl, by show (k : Int).toNat = k + 1 - 1; omega, rfl, rfl⟩
  clear hfb
  go_loopg [5, 6] 20 (FInv w w1 d D W k)
  case atStart => exact ⟨1, 0, _, rfl, by omega, rfl, rfl, ⟨by omega, by omega⟩, HD2.out, HF2.out, HK2.out⟩
  case round =>
    obtain ⟨i, last, S, hg, hi1, rfl, rfl, hu, hdev, hfs, hkp⟩ := hrel
    have HD := Lib.hid hdev
    have HF := Lib.hid hfs
    have HK := Lib.hid hkp
    have HG := Lib.hid hg
    have hSN : S.N = 1 := hfs.1
    have hSn : S.n + 1 = i := hfs.2.1
    have hSb : S.bad = k + 1 - i := hfs.2.2.1
    have hnb : (S.n : Int) < 9223372036854775807 := by omega
    have hbb : (S.bad : Int) < 9223372036854775807 := by omega
    have hkN : 0 < S.N := by omega
    have HNB := Lib.hid hnb
    have HBB := Lib.hid hbb
    have HKN := Lib.hid hkN
    have HSN := Lib.hid hSn
    clear hnb hbb hkN hSb hSN hSn hdev hfs hkp hg
    by_cases hi : i < 21
    · have hiz : (i : Int) ≤ 20 := by omega
      have hcv : IntKind.u8.wrap (i : Int) = (i : Int) := by rw [IntKind.wrap_u8']; omega
      have hui : U8 (i : Int) := ⟨by omega, by omega⟩
      have HUI := Lib.hid hui
      clear hui
      by_cases hp : i % 2 = 1
      · have hpz : ((i : Int) % 2 == 1) = true := by rw [beq_iff_eq]; omega
        clear hp
        by_cases he : i = k
        · have hez : ((i : Int) == (k : Int)) = true := by rw [beq_iff_eq]; omega
          have h9 := HF.out.hit hi1 he
          have hwc : writeC S 0 24 = 9 := by unfold writeC; rw [show hasI S 0 = true from hasI_of HKN.out]; exact h9
          have hbs : badS S 0 24 = accS S := by unfold badS; rw [show hasI S 0 = true from hasI_of HKN.out]; rfl
          have CW := Lib.hid fun (wx : World) (h : DevAt wx d D W (newG w d D W) S) (A : Option Addr) => write_bad h 0 A 24 24 (by omega) (by omega) (by unfold maxLen; omega) HNB.out HBB.out (by rw [hwc]; omega)
          rw [hwc, hbs] at CW
          clear he h9 hwc hbs
          go_wp2_with (first
            | (go_at_call 14; (with_reducible refine (bytes_any _ _).mono ?_); rintro e w3 ⟨g, rfl, hg, hblk, hgr⟩; have HB := Lib.hid hblk; have HGR := Lib.hid hgr; clear hblk hgr hg)
            | (go_at_call 13; (with_reducible refine (CW.out _ (HD.out.grow HGR.out) _).mono ?_); rintro e w4 ⟨rfl, hdev, hkp⟩; have HD4 := Lib.hid hdev; have HK4 := Lib.hid hkp; clear hdev hkp))
          go_roundg (gk - 1)
          case measure => have := HG.out; omega
          case rel => exact ⟨i + 1, last, _, by have := HG.out; omega, by omega, by go_num, rfl, hu, HD4.out, HF.out.acc, (HK.out.then HGR.out (fun _ _ x => x.elim)).then HK4.out (fun _ _ x => x)⟩
        · have hez : ((i : Int) == (k : Int)) = false := by rw [beq_eq_false_iff_ne]; omega
          have h0 := HF.out.miss he
          have CW := Lib.hid fun (wx : World) (g : Nat) (hx : Grow wr wx) (hg : wr.heap.size ≤ g) (hb : NBlk wx g 5 .u8 (ofB (i : Int))) =>
            write_int 0 (HD.out.grow hx) 0 (by omega) HKN.out (some ⟨g, 0, none⟩) 24 (g + 1) _ (fun w' hk => Sl.of_blk0 (Blk.kept hb hk (fun h => by have := HD.out.lt; rcases h with rfl | rfl | rfl <;> omega)) (ofB_len _) (by omega)) (ofB_bytes HUI.out) (newG_low (HD.out.grow hx) (Nat.le_trans HG1.out.size (Nat.le_trans HK.out.size hx.size))) HNB.out HBB.out h0
          clear he h0
          go_wp2_with (first
            | (go_at_call 14; (with_reducible refine (bytes_any _ _).mono ?_); rintro e w3 ⟨g, rfl, hg, hblk, hgr⟩; have HB := Lib.hid hblk; have HGR := Lib.hid hgr; have HGG := Lib.hid hg; clear hblk hgr hg)
            | (go_at_call 13; (with_reducible refine (CW.out _ _ HGR.out HGG.out HB.out).mono ?_); rintro e w4 ⟨rfl, hdev, hkp⟩; have HD4 := Lib.hid hdev; have HK4 := Lib.hid hkp; clear hdev hkp))
          go_roundg (gk - 1)
          case measure => have := HG.out; omega
          case rel => exact ⟨i + 1, (i : Int), _, by have := HG.out; omega, by omega, by go_num, rfl, HUI.out, HD4.out, HF.out.acc.put, (HK.out.then HGR.out (fun _ _ x => x.elim)).then HK4.out (fun _ _ x => x)⟩
      · have hpz : ((i : Int) % 2 == 1) = false := by rw [beq_eq_false_iff_ne]; omega
        clear hp
        by_cases he : i = k
        · have hez : ((i : Int) == (k : Int)) = true := by rw [beq_iff_eq]; omega
          have h9 := HF.out.hit hi1 he
          have hrc : readC S 0 = 9 := by unfold readC; rw [show hasI S 0 = true from hasI_of HKN.out]; exact h9
          have hrs : readS S 0 = accS S := by unfold readS; rw [show hasI S 0 = true from hasI_of HKN.out]; rfl
          have CR := Lib.hid (read_bad HD.out 0 (by omega) (by omega) HNB.out HBB.out (by rw [hrc]; omega))
          rw [hrc, hrs] at CR
          clear he h9 hrc hrs
          go_wp2_with (go_at_call 11; (with_reducible refine CR.out.mono ?_); rintro e w4 ⟨rfl, hdev, hkp, _⟩; have HD4 := Lib.hid hdev; have HK4 := Lib.hid hkp; clear hdev hkp)
          go_roundg (gk - 1)
          case measure => have := HG.out; omega
          case rel => exact ⟨i + 1, last, _, by have := HG.out; omega, by omega, by go_num, rfl, hu, HD4.out, HF.out.acc, HK.out.then HK4.out (fun _ _ x => x)⟩
        · have hez : ((i : Int) == (k : Int)) = false := by rw [beq_eq_false_iff_ne]; omega
          have h0 := HF.out.miss he
          have CR := Lib.hid (read_int 0 HD.out 0 (by omega) HKN.out HNB.out HBB.out h0)
          rw [HF.out.2.2.2.2] at CR
          clear he h0
          go_wp2_with (go_at_call 11; (with_reducible refine CR.out.mono ?_); rintro e w4 ⟨A, n, c, rfl, _, hz, hdev, hkp⟩; obtain ⟨rfl, g, rfl, _, hrow⟩ := hz rfl; have hc0 := hrow.cell (i := 0) (by omega); rw [ofB_at last (by omega)] at hc0; have HD4 := Lib.hid (back hdev own_new); have HK4 := Lib.hid hkp; clear hdev hkp hz hrow)
          go_roundg (gk - 1)
          case measure => have := HG.out; omega
          case rel => exact ⟨i + 1, last, _, by have := HG.out; omega, by omega, by go_num, rfl, hu, HD4.out, HF.out.acc, HK.out.then HK4.out (fun _ _ x => x)⟩
    · obtain rfl : i = 21 := by have := HG.out; omega
      have CA := Lib.hid fun (wx : World) (hx : Grow wr wx) => accesses_any (HD.out.grow hx)
      rw [show (S.n : Int) = 20 by have := HSN.out; omega] at CA
      clear hi hi1
      simp only [Int.cast_ofNat_Int]
      go_wp2_with (first
        | (go_at_call 10; (with_reducible refine (told_any _).mono ?_); rintro e w3 ⟨rfl, hge⟩; have HGE := Lib.hid hge; clear hge)
        | (go_at_call 27; (with_reducible refine (CA.out _ HGE.out).mono ?_); rintro e w4 ⟨rfl, rfl⟩))
      go_ret
      exact ⟨rfl, Kept.below (((Grow.kept HG1.out).then HK.out (fun _ _ x => x)).then HGE.out (fun _ _ x => x.elim)) (fun k h => by have := HOLD.out; rcases h with rfl | rfl | rfl <;> omega) (Nat.le_refl _)⟩

/-! ### THE ROW's STEP: WRITTEN OUT: LEAVE IT -/
set_option maxRecDepth 100000 in
theorem lifted (os : Os) (started : os.Started) (H : Type) (enc : TypeId × Value → H) :
    ReturnsInHanded {} Try.checked os 5 .any (Rows.diskFailsSpec.pre6 enc Try.prog Try.f5 Rows.diskFailsRow.domain false) (Rows.diskFailsSpec.post enc Try.prog Try.f5 false true false false) := by
  refine returnsInHanded_of_change (C := Try.checked) own started (by kernel_rfl) Try.func5
    (ChangeSpec.witness6 (enc := enc) (C := Try.checked) false ⟨#[], #[.int .i64 0], []⟩ 8 (by kernel_rfl) (by kernel_rfl) (by kernel_rfl) (by kernel_rfl)) ?_
  intro W base args ds gs before hval0 hW hcnd _
  have hval : ∀ (j : Nat) t v, Try.f5.params[j]? = some t → args[j]? = some v → Value.okWide Try.prog W .any base t v := hval0
  have hW' := hW
  obtain ⟨p, q, hA0, hV, rfl, hfz, hnd⟩ := hW
  have hA : DataW.TrodAll enc Try.prog W 0 (fun _ => true) true Try.f5.params.toList args.toList ds p := hA0
  rw [Try.params5] at hA hval
  obtain ⟨v0, vs0, d0, ds0, p0, q0, hargs, rfl, rfl, h0, r0⟩ := trodAll_cons hA
  obtain ⟨rfl, rfl, rfl⟩ := trodAll_nil r0
  obtain rfl : args = #[v0] := by cases args; simp_all
  obtain ⟨rfl, rfl⟩ := trodVars_none hV
  obtain ⟨a0, rfl, rfl, rfl, w0⟩ := open_int Try.underlying3 (hval 0 3 v0 rfl rfl) h0
  clear hA0 hval0
  refine (walk a0 W w0).mono fun e W' ⟨he, bel⟩ => ?_
  subst he
  exact ⟨_, rfl, _, _, _, [], _, [], hW', trodAll_mk1 (shut_bool Try.underlying4 _), (trodAll_cons_mk (shut_int Try.underlying3 w0) trodAll_mk0), rfl, bel.frame _, fun h => by cases h⟩

theorem over : Rows.diskFailsRow.holds Try.pinned (OpenSpec.ofChange Rows.diskFailsSpec) :=
  OpenClaim.holds_of_wide 5 Try.f5 rfl rfl rfl rfl rfl rfl rfl ⟨rfl, rfl, rfl, rfl, rfl⟩ rfl rfl rfl rfl rfl (by kernel_rfl) Try.func5 (by kernel_rfl)
    (of_decide_eq_true (by kernel_rfl)) (by unfold Func.isWrapper; first | (rw [if_pos (by decide +kernel)]; kernel_rfl) | (rw [if_neg (by decide +kernel)]; exact ⟨rfl, rfl⟩))
    (fun os started H enc _ => lifted os started H enc)

/-- ████ THE STATEMENT ████ -/
theorem proved : Rows.DiskFailsSaid := over
#print axioms proved
end Go.Proofs.Ytfjcbcpfhjaeeaa.diskFails
