/-
  For every input the call of lavabolaw11.CorePins returns true and leaves its arguments as they were; no condition.
-/
import Derived.Test.YtcmhkknoffeebaaCoWays
import Derived.Test.YtcmhkknoffeebaaCoIn
import Derived.Test.YtcmhkknoffeebaaRows
import Derived.WalkKit
import Derived.ProofKit
import Derived.OpenShut
import Derived.ShutString
import Derived.ChangeOld
import Derived.Below
namespace Go.Proofs.Ytcmhkknoffeebaa.corePins
open Go.ChangeShapes Go.WideShapes Go.ChangeAt Go.RowKit
open Go.ChangeMaps (open_string shut_string)
open Go.Proofs.Ytcmhkknoffeebaa.Mem Go.Proofs.Ytcmhkknoffeebaa.Blk Go.Proofs.Ytcmhkknoffeebaa.Cells Go.Proofs.Ytcmhkknoffeebaa.Orow Go.Proofs.Ytcmhkknoffeebaa.ArM Go.Proofs.Ytcmhkknoffeebaa.ArC Go.Proofs.Ytcmhkknoffeebaa.ArD Go.Proofs.Ytcmhkknoffeebaa.CoM Go.Proofs.Ytcmhkknoffeebaa.CoC Go.Proofs.Ytcmhkknoffeebaa.CoO Go.Proofs.Ytcmhkknoffeebaa.CoS Go.Proofs.Ytcmhkknoffeebaa.CoW Go.Proofs.Ytcmhkknoffeebaa.CoV Go.Proofs.Ytcmhkknoffeebaa.Told11 Go.Proofs.Ytcmhkknoffeebaa.OpsC Go.Proofs.Ytcmhkknoffeebaa.Stages
set_option linter.unusedVariables false

theorem own : ownKnob Try.prog.godebug = none := by kernel_rfl
theorem laidOut : laidOutB Try.prog = true := by kernel_rfl

/-- WHAT THE WALK IS TOLD OF A SLICE OF INTEGERS THAT CAME IN: it is nil; or it leads to a row of 'cap' cells, the numbers 'zs' (the first 'len' are its elements, the rest its spare room), each fitting its kind. -/
def IsRow (k : IntKind) (w : World) (a : Option Addr) (len cap : Nat) (zs : List Int) : Prop :=
  (a = none ∧ len = 0 ∧ cap = 0 ∧ zs = []) ∨
  ∃ x, a = some x ∧ len ≤ cap ∧ cap ≤ maxLen ∧ zs.length = cap ∧ (∀ i, i < zs.length → w.cell? (x.add i) = some (.int k (zs.getD i 0))) ∧ ∀ n ∈ zs, (Lit.int k n).wf = true

theorem kind8 (a : Int) : ∃ (m K : Int), a.tmod 8 = m ∧ -8 < m ∧ m < 8 ∧ (m + 8).tmod 8 = K ∧ 0 ≤ K ∧ K < 8 := by
  have key : ∀ b : Int, 0 ≤ b → 0 ≤ b.tmod 8 ∧ b.tmod 8 < 8 := fun b hb => by
    rw [IntWalk.rem_in _ _ hb]
    omega
  have hb : -8 < a.tmod 8 ∧ a.tmod 8 < 8 := by
    by_cases h : 0 ≤ a
    · have := key a h
      omega
    · have := key (-a) (by omega)
      rw [Int.neg_tmod] at this
      omega
  obtain ⟨h0, h8⟩ := key (a.tmod 8 + 8) (by omega)
  exact ⟨_, _, rfl, hb.1, hb.2, rfl, h0, h8⟩
theorem cnt_on1 {f : Nat → Bool} {n : Nat} (h : f n = true) : TabM.cnt f (n + 1) = TabM.cnt f n + 1 := by show TabM.cnt f n + (if f n = true then 1 else 0) = _; rw [if_pos h]
theorem cnt_off1 {f : Nat → Bool} {n : Nat} (h : f n = false) : TabM.cnt f (n + 1) = TabM.cnt f n := by show TabM.cnt f n + (if f n = true then 1 else 0) = _; rw [h]; rfl
section
variable {w w1 w2 : World} {B N : Nat}
theorem grow_cfN (h : Grow w w1) (k : Kept (CF (fun k => B ≤ k ∧ k < N) B w1) w1 w2) (hB : B = w.heap.size) : Grow w w2 := h.then k fun i hi e => by
  rcases e with e | e
  · have := e.1; omega
  · have := e.1; omega
theorem or_cf {g c n : Nat} {F : Nat → Fr} (h : FR w1 g c n F) (k : Kept (CF (fun k => B ≤ k ∧ k < N) B w1) w1 w2) (hg : N ≤ g) : FR w2 g c n F := OR.kept h k fun x => by
  rcases x with x | x
  · have := x.1.2; omega
  · exact (isCells_row (OR.row h)).notChan x.2
end
def PLoop (w : World) (B d k M g : Nat) (i : Value) (wx : World) : Prop := ∃ (j : Nat) (c : Co), j + g = M ∧ i = .int .i64 (j : Int) ∧ PT k c ∧ CoAt wx (B ≤ ·) B d c ∧ Grow w wx
def JLoop (a : Ar) (w5 : World) (k g : Nat) (u v i : Value) (wx : World) : Prop := ∃ j : Nat, j + g = k ∧ u = .int .i64 ((TabM.cnt (pinF a) j : Nat) : Int) ∧ v = .int .i64 ((TabM.cnt (isF a) j : Nat) : Int) ∧ i = .int .i64 (j : Int) ∧ Grow w5 wx
/-! ### STEP 1: THE WALK: the Go text returns true, AND WRITES NOTHING THAT WAS THERE: 'Below w.heap.size w w'' (Derived/Below.lean: '.refl', '.alloc', '.drew', '.setCell' at a new block, '.trans'). Open each 'IsRow' by 'rcases' AHEAD of 'go_enter'; part every test ahead of the walk. -/
set_option maxHeartbeats 8000000 in
set_option maxRecDepth 100000 in
theorem walk (a0 : Int) (a1 : Option Addr) (len1 cap1 : Nat) (w : World) (w0 : (Lit.int .i64 a0).wf = true) (w1 : OpsAt w a1 len1 cap1) :
    Calls Try.prog 3 #[.int .i64 a0, .slice a1 len1 cap1] w fun e w' => e = .returned (.bool true) ∧ Below w.heap.size w w' := by
  have k0 := bounds_i64 w0
  obtain ⟨hlc, hcm, hops⟩ := w1
  unfold maxLen at hcm
  have HOPS := Lib.hid hops
  clear hops
  obtain ⟨q, hq, hq8⟩ := tmod_nat a0 8 (by omega)
  simp only [Int.cast_ofNat_Int] at hq
  obtain ⟨k, hk⟩ : ∃ k : Nat, k = 1 + q := ⟨_, rfl⟩
  have hkz : (1 : Int) + (q : Int) = (k : Int) := by omega
  have hk1 : 1 ≤ k := by omega
  have hk8 : k ≤ 8 := by omega
  have hk0 : 0 < k := by omega
  have hkz8 : (k : Int) ≤ 8 := by omega
  have hkz1 : (1 : Int) ≤ (k : Int) := by omega
  have hqz : (q : Int) < 8 := by omega
  obtain ⟨B, hB⟩ : ∃ B, B = w.heap.size := ⟨_, rfl⟩
  have HB := Lib.hid hB
  have CN := Lib.hid (new_good (w := w) k (by omega))
  obtain ⟨M, hM⟩ : ∃ M : Nat, M = min len1 120 := ⟨_, rfl⟩
  have HM := Lib.hid hM
  have hM1 : M ≤ len1 := by omega
  have hM120 : M ≤ 120 := by omega
  clear hB hk hM
  go_enter Try.func3, Try.ntmps3
  go_wp2_with (first
    | (go_at_call 7; (try rw [hkz]); (with_reducible refine CN.out.mono ?_); rintro e w1 ⟨d, rfl, hr, hg⟩; rw [← HB.out] at hr; have H0 := Lib.hid hr; have G0 := Lib.hid hg; clear hr hg)
    | (go_at_call 8; (with_reducible refine (t_arena H0.out).mono ?_); rintro e w' ⟨⟨da1, dl1, Dl1, dr1, rfl, _⟩, rfl⟩))
  clear hq hq8 hqz
  go_loopg [6] M (PLoop w B d k M)
  case atStart => exact ⟨0, _, by omega, rfl, pt_zero (by omega), H0.out, G0.out⟩
  case round =>
    obtain ⟨j, c, hg, rfl, hpt, hc, hgr⟩ := hrel
    have HG := Lib.hid hg
    have HPT := Lib.hid hpt
    have HC := Lib.hid hc
    have HGR := Lib.hid hgr
    clear hg hpt hc hgr H0 G0
    by_cases hj : j < M
    · have HJ := Lib.hid hj
      have hjz : (j : Int) < (len1 : Int) := by omega
      have hj120 : (j : Int) < 120 := by omega
      obtain ⟨ab, ao, rfl, hab, hall⟩ := HOPS.out (by omega)
      obtain ⟨x, hx⟩ := hall j (by omega)
      have cp := HGR.out.cellN hx.p id
      have cn := HGR.out.cellN hx.n id
      obtain ⟨P, hP, hP16⟩ := tmod_nat x.p 16 (by omega)
      obtain ⟨Fq, hF, hF8⟩ := tmod_nat x.n 8 (by omega)
      simp only [Int.cast_ofNat_Int] at hP hF
      obtain ⟨km, K, hkm, hk1', hk2, hK, hK0, hK8⟩ := kind8 x.k
      have kB := hx.kB
      have HX := Lib.hid hx
      clear hall hx hj
      have q1 := up_cell (F := fun _ => False) (w := wr.drew) cp id
      have q2 := up_cell (F := fun _ => False) (w := wr.drew) cn id
      clear cp cn
      go_upto_region 7 with (fail)
      refine wp_region_stages Grow (kept_refl _) (kept_trans _) [] [0, 1, 2, 3, 4, 5, 6, 7, 8, 9, 10, 11, 12, 13, 14, 15, 16, 17] (by kernel_rfl) (by kernel_rfl) ?_
      simp only [selSt, sel, List.map_cons, List.map_nil, List.getD_cons_succ, List.getD_cons_zero]
      refine st_nil fun K4 hK4 => ?_
      repeat (go_big_quiet_step (fail))
      refine wpQuiet_nil (hK4 _ ?_)
      clear hK4 K4 q1 q2 hP hF
      have HGD := Lib.hid (HGR.out.drew)
      obtain ⟨N, hN⟩ : ∃ N, N = wr.drew.heap.size := ⟨_, rfl⟩
      have HAD : Hid (CoAt wr.drew (fun x => B ≤ x ∧ x < N) B d c) := (HC.out.grow (Kept.drew' wr)).mono fun x hx h => ⟨h, by omega⟩
      have HNN := Lib.hid hN
      clear hN
      go_upto_region 9 with (first
        | (go_at_call 8; (with_reducible refine (t_arena HAD.out).mono ?_); rintro e w' ⟨⟨da2, dl2, Dl2, dr2, rfl, hp⟩, rfl⟩; have HP := Lib.hid hp; clear hp)
        | (go_at_call 9; (with_reducible refine (t_frames HP.out.ar HPT.out.n hk0).mono ?_); rintro e w3 ⟨g1, c1, rfl, ho, hgg, hg⟩; have HO1 := Lib.hid ho; have HGG1 : Hid (N ≤ g1) := (by show N ≤ g1; rw [HNN.out]; exact hgg); have HG3 := Lib.hid hg; clear ho hg hgg))
      have HA3 := Lib.hid (HAD.out.grow HG3.out)
      have HGR3 := Lib.hid (HGD.out.trans HG3.out)
      have ck := HGR3.out.cellN HX.out.k id
      clear HAD HGD HP HC HGR
      go_upto_block 2 with (fail)
      clear hkm hK ck kB hk1' hk2
      have hPz : (P : Int) < 16 := by omega
      have hFz : (Fq : Int) < 8 := by omega
      by_cases hk2 : K < 2
      · as_aux_lemma =>
        go_wp2_with (go_at_call 10; (with_reducible refine (t_hit HA3.out HPT.out.t (P : Int) rfl rfl).mono ?_); rintro e w4 ⟨rfl, hr, hk⟩; have H4 := Lib.hid hr; have G4 := Lib.hid (grow_cfN HGR3.out hk HB.out); clear hr hk)
        go_roundg (M - (j + 1))
        case measure => have := HG.out; have := HJ.out; omega
        case rel => exact ⟨j + 1, _, by have := HG.out; have := HJ.out; omega, by go_num, pt_hit HPT.out _, H4.out.mono fun x _ h => h.1, G4.out⟩
      · by_cases hk5 : K < 5
        · obtain ⟨hpt', hsame, hway⟩ := Go.Proofs.Ytcmhkknoffeebaa.CoV.ways HPT.out (p := (P : Int)) (by omega) (by omega)
          have HPT2 := Lib.hid hpt'
          have HSAME := Lib.hid hsame
          have HWAY := Lib.hid hway
          clear hpt' hsame hway
          obtain ⟨⟨e0, f0, v0⟩, hrc⟩ : ∃ r : Ans, c.roomC (P : Int) = r := ⟨_, rfl⟩
          have HRC := Lib.hid hrc
          clear hrc
          go_upto_region 16 with (first
            | (go_at_call 11; (with_reducible refine (t_room HA3.out HPT.out.t (P : Int) HRC.out rfl).mono ?_); rintro e w4 ⟨rfl, hr, hk⟩; have H4 := Lib.hid hr; have HO4 := Lib.hid (or_cf HO1.out hk HGG1.out); have G4 := Lib.hid (grow_cfN HGR3.out hk HB.out); clear hr hk)
            | (go_at_call 8; (with_reducible refine (t_arena H4.out).mono ?_); rintro e w' ⟨⟨da3, dl3, Dl3, dr3, rfl, hp⟩, rfl⟩; have HP := Lib.hid hp; clear hp)
            | (go_at_call 9; (with_reducible refine (t_frames HP.out.ar HPT2.out.n hk0).mono ?_); rintro e w5 ⟨g2, c2, rfl, ho, _, hg⟩; have HO2 := Lib.hid ho; have HO5 : Hid (FR w5 g1 c1 k c.a.F) := OR.grow HO4.out hg; have HG5 := Lib.hid hg; clear ho hg))
          have H5 := Lib.hid (H4.out.grow HG5.out)
          have HGR5 := Lib.hid (G4.out.trans HG5.out)
          clear H4 G4 HP HO1 HA3 HGR3 HO4 hk2 hk5 hK0 hK8
          obtain ⟨wo, hwo⟩ : ∃ wo, wo = w5 := ⟨_, rfl⟩
          go_wp2_with (fail)
          go_loopg [15, 16, 17] k (JLoop c.a w5 k)
          case atStart => exact ⟨0, by omega, rfl, rfl, rfl, Kept.refl _ _⟩
          case round =>
            obtain ⟨y, hgy, rfl, rfl, rfl, hgr⟩ := hrel
            have HGY := Lib.hid hgy
            have HGRY := Lib.hid hgr
            have hcz : ((TabM.cnt (isF c.a) y : Nat) : Int) ≤ 8 := by have := TabM.cnt_le (isF c.a) y; omega
            have hpz : ((TabM.cnt (pinF c.a) y : Nat) : Int) ≤ 8 := by have := TabM.cnt_le (pinF c.a) y; omega
            have HOA : Hid (FR wr g1 c1 k c.a.F) := OR.grow HO5.out hgr
            have HOB : Hid (FR wr g2 c2 k (c.room (P : Int)).a.F) := OR.grow HO2.out hgr
            clear hgy hgr
            by_cases hy : y < k
            · have HY := Lib.hid hy
              have hyz : (y : Int) < (k : Int) := by omega
              have c0 := FR.c0 HOA.out hy
              have c2' := FR.c2 HOA.out hy
              by_cases hpn : 0 < (c.a.F y).pn
              · as_aux_lemma =>
                have hst : (c.a.F y).st = 1 := by
                  rcases HPT.out.s y hy with e | e
                  · have := (HPT.out.t.g.rest y (by rw [HPT.out.n]; exact hy) (by omega)).2.1
                    omega
                  · exact e
                have HC1 := Lib.hid (cnt_on1 (f := pinF c.a) (n := y) (decide_eq_true hpn))
                have HC2 := Lib.hid (cnt_off1 (f := isF c.a) (n := y) (decide_eq_false (by omega)))
                have c1' := FR.c1 HOA.out hy
                have c3' := FR.c3 HOA.out hy
                have c4' := FR.c4 HOA.out hy
                have d0 := FR.c0 HOB.out hy
                have d1 := FR.c1 HOB.out hy
                have d2 := FR.c2 HOB.out hy
                have d3 := FR.c3 HOB.out hy
                have d4 := FR.c4 HOB.out hy
                rw [HSAME.out y hy hpn] at d0 d1 d2 d4
                rw [hst] at c0 d0
                clear hst hy
                generalize TabM.cnt (pinF c.a) y = C1 at *
                generalize TabM.cnt (isF c.a) y = C2 at *
                generalize (c.a.F y).pn = pn at *
                generalize (c.a.F y).pg = pg at *
                generalize (c.a.F y).di = di at *
                go_upto_region 24 with (fail)
                have q0 := up_cell (F := fun _ => False) (w := wr.drew) (p := ⟨g1, y * 5, none⟩) c0 id
                have q1 := up_cell (F := fun _ => False) (w := wr.drew) (p := ⟨g1, y * 5 + 1, none⟩) c1' id
                have q2 := up_cell (F := fun _ => False) (w := wr.drew) (p := ⟨g1, y * 5 + 2, none⟩) c2' id
                have q3 := up_cell (F := fun _ => False) (w := wr.drew) (p := ⟨g1, y * 5 + 3, none⟩) c3' id
                have q4 := up_cell (F := fun _ => False) (w := wr.drew) (p := ⟨g1, y * 5 + 4, none⟩) c4' id
                have q5 := up_cell (F := fun _ => False) (w := wr.drew) (p := ⟨g2, y * 5, none⟩) d0 id
                have q6 := up_cell (F := fun _ => False) (w := wr.drew) (p := ⟨g2, y * 5 + 1, none⟩) d1 id
                have q7 := up_cell (F := fun _ => False) (w := wr.drew) (p := ⟨g2, y * 5 + 2, none⟩) d2 id
                have q8 := up_cell (F := fun _ => False) (w := wr.drew) (p := ⟨g2, y * 5 + 3, none⟩) d3 id
                have q9 := up_cell (F := fun _ => False) (w := wr.drew) (p := ⟨g2, y * 5 + 4, none⟩) d4 id
                clear c0 c1' c2' c3' c4' d0 d1 d2 d3 d4
                refine wp_region_stages Grow (kept_refl _) (kept_trans _) [] [0, 1, 2, 3, 4, 5, 6, 7, 8, 9, 10, 11, 12, 13, 14, 15, 16] (by kernel_rfl) (by kernel_rfl) ?_
                simp only [selSt, sel, List.map_cons, List.map_nil, List.getD_cons_succ, List.getD_cons_zero]
                refine st_nil fun K4 hK4 => ?_
                repeat (go_big_quiet_step (fail))
                refine wpQuiet_nil (hK4 _ ?_)
                clear hK4 K4 q0 q1 q2 q3 q4 q5 q6 q7 q8 q9
                go_wp2
                go_roundg (gk - 1)
                case measure => have := HGY.out; have := HY.out; omega
                case rel => exact ⟨y + 1, by have := HGY.out; have := HY.out; omega, by rw [HC1.out]; go_num, by rw [HC2.out], by go_num, HGRY.out.drew⟩
              · have HC1 := Lib.hid (cnt_off1 (f := pinF c.a) (n := y) (decide_eq_false hpn))
                have hpn' : (c.a.F y).pn ≤ 0 := by omega
                rcases HPT.out.s y hy with hst | hst
                · as_aux_lemma =>
                  have HC2 := Lib.hid (cnt_on1 (f := isF c.a) (n := y) (decide_eq_true hst))
                  rw [hst] at c0
                  clear hst hy
                  generalize TabM.cnt (pinF c.a) y = C1 at *
                  generalize TabM.cnt (isF c.a) y = C2 at *
                  generalize (c.a.F y).pn = pn at *
                  have hdz : decide (0 < pn) = false := decide_eq_false hpn
                  go_upto_region 24 with (fail)
                  have q2 := up_cell (F := fun _ => False) (w := wr.drew) (p := ⟨g1, y * 5 + 2, none⟩) c2' id
                  clear c0 c2'
                  refine wp_region_stages Grow (kept_refl _) (kept_trans _) [] [0, 1, 2, 3, 4, 5, 6, 7, 8, 9, 10, 11, 12, 13, 14, 15, 16] (by kernel_rfl) (by kernel_rfl) ?_
                  simp only [selSt, sel, List.map_cons, List.map_nil, List.getD_cons_succ, List.getD_cons_zero]
                  refine st_nil fun K4 hK4 => ?_
                  repeat (go_big_quiet_step (fail))
                  refine wpQuiet_nil (hK4 _ ?_)
                  clear hK4 K4 q2
                  go_wp2
                  go_roundg (gk - 1)
                  case measure => have := HGY.out; have := HY.out; omega
                  case rel => exact ⟨y + 1, by have := HGY.out; have := HY.out; omega, by rw [HC1.out], by rw [HC2.out]; go_num, by go_num, HGRY.out.drew⟩
                · as_aux_lemma =>
                  have HC2 := Lib.hid (cnt_off1 (f := isF c.a) (n := y) (decide_eq_false (by omega)))
                  rw [hst] at c0
                  clear hst hy
                  generalize TabM.cnt (pinF c.a) y = C1 at *
                  generalize TabM.cnt (isF c.a) y = C2 at *
                  generalize (c.a.F y).pn = pn at *
                  have hdz : decide (0 < pn) = false := decide_eq_false hpn
                  go_upto_region 24 with (fail)
                  have q2 := up_cell (F := fun _ => False) (w := wr.drew) (p := ⟨g1, y * 5 + 2, none⟩) c2' id
                  clear c0 c2'
                  refine wp_region_stages Grow (kept_refl _) (kept_trans _) [] [0, 1, 2, 3, 4, 5, 6, 7, 8, 9, 10, 11, 12, 13, 14, 15, 16] (by kernel_rfl) (by kernel_rfl) ?_
                  simp only [selSt, sel, List.map_cons, List.map_nil, List.getD_cons_succ, List.getD_cons_zero]
                  refine st_nil fun K4 hK4 => ?_
                  repeat (go_big_quiet_step (fail))
                  refine wpQuiet_nil (hK4 _ ?_)
                  clear hK4 K4 q2
                  go_wp2
                  go_roundg (gk - 1)
                  case measure => have := HGY.out; have := HY.out; omega
                  case rel => exact ⟨y + 1, by have := HGY.out; have := HY.out; omega, by rw [HC1.out], by rw [HC2.out], by go_num, HGRY.out.drew⟩
            · obtain rfl : y = k := by have := HGY.out; omega
              have H6 := Lib.hid (H5.out.grow HGRY.out)
              have HGR6 := Lib.hid (HGR5.out.trans HGRY.out)
              clear hy H5 HGR5 HO5 HO2 HG5
              cases HWAY.out with
              | held hc hf =>
                as_aux_lemma =>
                have he := HRC.out.symm.trans hc
                injection he with e1 e2 e3
                subst e1 e2 e3
                clear HWAY HRC hc
                have HFI : Hid (∀ da dl Dl dr, Parts wr (fun x => B ≤ x ∧ x < N) B d da dl Dl dr (c.room (P : Int)) → Calls Try.prog 12 #[.pointer (some ⟨da, 0, none⟩), .int .i64 (P : Int)] wr fun e w' => e = .returned (.int .i64 ((c.room (P : Int)).a.find (P : Int))) ∧ wr = w') := fun _ _ _ _ h => find_any h.ar _
                generalize (c.room (P : Int)).a.find (P : Int) = fz at *
                generalize TabM.cnt (pinF c.a) y = C1 at *
                generalize TabM.cnt (isF c.a) y = C2 at *
                go_wp2_with (first
                  | (go_at_call 8; (with_reducible refine (t_arena H6.out).mono ?_); rintro e w' ⟨⟨da4, dl4, Dl4, dr4, rfl, hp⟩, rfl⟩; have HFJ := Lib.hid (HFI.out _ _ _ _ hp); clear hp)
                  | (go_at_call 12; (with_reducible refine HFJ.out.mono ?_); rintro e w' ⟨rfl, rfl⟩))
                go_roundg (M - (j + 1))
                case measure => have := HG.out; have := HJ.out; omega
                case rel => exact ⟨j + 1, _, by have := HG.out; have := HJ.out; omega, by go_num, HPT2.out, H6.out.mono fun x _ h => h.1, HGR6.out⟩
              | new f hf hc hF =>
                as_aux_lemma =>
                have he := HRC.out.symm.trans hc
                injection he with e1 e2 e3
                subst e1 e2 e3
                have d1 := FR.c1 HOB.out hf
                have d2 := FR.c2 HOB.out hf
                rw [hF] at d1 d2
                have hfz : (f : Int) < (y : Int) := by omega
                clear HWAY HRC hc hF
                generalize TabM.cnt (pinF c.a) y = C1 at *
                generalize TabM.cnt (isF c.a) y = C2 at *
                go_wp2_with (fail)
                go_roundg (M - (j + 1))
                case measure => have := HG.out; have := HJ.out; omega
                case rel => exact ⟨j + 1, _, by have := HG.out; have := HJ.out; omega, by go_num, HPT2.out, H6.out.mono fun x _ h => h.1, HGR6.out⟩
              | full hc h0 hp =>
                as_aux_lemma =>
                have he := HRC.out.symm.trans hc
                injection he with e1 e2 e3
                subst e1 e2 e3
                clear HWAY HRC hc
                simp only [h0, hp, Int.cast_ofNat_Int]
                go_wp2_with (fail)
                go_roundg (M - (j + 1))
                case measure => have := HG.out; have := HJ.out; omega
                case rel => exact ⟨j + 1, _, by have := HG.out; have := HJ.out; omega, by go_num, HPT2.out, H6.out.mono fun x _ h => h.1, HGR6.out⟩
              | dirty f hf hc hd hp h0 =>
                as_aux_lemma =>
                have he := HRC.out.symm.trans hc
                injection he with e1 e2 e3
                subst e1 e2 e3
                have d1 := FR.c1 HOA.out hf
                have d2 := FR.c2 HOA.out hf
                have d4 := FR.c4 HOA.out hf
                rw [hd] at d4
                have hfz : (f : Int) < (y : Int) := by omega
                clear HWAY HRC hc hd
                simp only [h0, Int.cast_ofNat_Int]
                generalize TabM.cnt (pinF c.a) y = C1 at *
                generalize (c.a.F f).pn = pn at *
                generalize (c.a.F f).pg = pg at *
                go_wp2_with (fail)
                go_roundg (M - (j + 1))
                case measure => have := HG.out; have := HJ.out; omega
                case rel => exact ⟨j + 1, _, by have := HG.out; have := HJ.out; omega, by go_num, HPT2.out, H6.out.mono fun x _ h => h.1, HGR6.out⟩
              | old f hf hc hg hd hp h0 hF =>
                as_aux_lemma =>
                have he := HRC.out.symm.trans hc
                injection he with e1 e2 e3
                subst e1 e2 e3
                have d1 := FR.c1 HOA.out hf
                have d2 := FR.c2 HOA.out hf
                have d4 := FR.c4 HOA.out hf
                rw [hd] at d4
                have d6 := FR.c1 HOB.out hf
                have d7 := FR.c2 HOB.out hf
                rw [hF] at d6 d7
                have hfz : (f : Int) < (y : Int) := by omega
                clear HWAY HRC hc hd hF
                simp only [h0, Int.cast_ofNat_Int]
                generalize TabM.cnt (pinF c.a) y = C1 at *
                generalize (c.a.F f).pn = pn at *
                generalize (c.a.F f).pg = pg at *
                go_wp2_with (fail)
                go_roundg (M - (j + 1))
                case measure => have := HG.out; have := HJ.out; omega
                case rel => exact ⟨j + 1, _, by have := HG.out; have := HJ.out; omega, by go_num, HPT2.out, H6.out.mono fun x _ h => h.1, HGR6.out⟩
        · by_cases hk7 : K < 7
          · as_aux_lemma =>
            go_wp2_with (go_at_call 13; (with_reducible refine (t_let HA3.out (Fq : Int) rfl rfl).mono ?_); rintro e w4 ⟨rfl, hr, hk⟩; have H4 := Lib.hid hr; have G4 := Lib.hid (grow_cfN HGR3.out hk HB.out); clear hr hk)
            go_roundg (M - (j + 1))
            case measure => have := HG.out; have := HJ.out; omega
            case rel => exact ⟨j + 1, _, by have := HG.out; have := HJ.out; omega, by go_num, pt_unpin HPT.out _, H4.out.mono fun x _ h => h.1, G4.out⟩
          · as_aux_lemma =>
            have cc := HGR3.out.cellN HX.out.c id
            have HABB : Hid (ab < B) := by show ab < B; rw [HB.out]; exact hab
            go_upto_region 10 with (fail)
            have HD3 := Lib.hid (HA3.out.grow (Kept.drew' w3))
            have q0 := up_cell (F := CF (fun x => B ≤ x ∧ x < N) B w3.drew) (w := w3.drew) (p := ⟨ab, ao + j * 4 + 3, none⟩) cc (fun h => by
              rcases h with h | h
              · have h1 := h.1.1
                have h2 := HABB.out
                change B ≤ ab at h1
                omega
              · have h1 := h.1
                have h2 := HABB.out
                change B ≤ ab at h1
                omega)
            refine wp_region_stages (Kept (CF (fun x => B ≤ x ∧ x < N) B w3.drew)) (kept_refl _) (kept_trans _) [([0, 2, 3, 4, 5, 6, 7], 1), ([], 8)] [] (by kernel_rfl) (by kernel_rfl) ?_
            simp only [selSt, sel, List.map_cons, List.map_nil, List.getD_cons_succ, List.getD_cons_zero]
            refine st_cons fun K1 hK1 => ?_
            repeat (go_big_quiet_step (fail))
            refine wpQuiet_nil ?_
            clear q0
            go_wp2_with (go_at_call 8; (with_reducible refine (t_arena HD3.out).mono ?_); rintro e w' ⟨⟨da4, dl4, Dl4, dr4, rfl, hp⟩, rfl⟩; have HP := Lib.hid hp; clear hp)
            refine norm_up (hK1 _ _ (Kept.refl _ _) (st_cons fun K2 hK2 => ?_))
            clear hK1 K1
            refine wpQuiet_nil ?_
            go_wp2_with (go_at_call 14; (with_reducible refine (t_mark HP.out _ _ rfl rfl).mono ?_); rintro e w4 ⟨rfl, hr, hk⟩; have H4 := Lib.hid hr; have HK4 := Lib.hid hk; have G4 := Lib.hid (grow_cfN HGR3.out.drew hk HB.out); clear hr hk)
            refine norm_up (hK2 _ _ HK4.out (st_nil fun K3 hK3 => wpQuiet_nil (hK3 _ ?_)))
            clear hK2 hK3 K2 K3
            go_wp2
            go_roundg (M - (j + 1))
            case measure => have := HG.out; have := HJ.out; omega
            case rel => exact ⟨j + 1, _, by have := HG.out; have := HJ.out; omega, by go_num, pt_mark HPT.out _ _, H4.out.mono fun x _ h => h.1, G4.out⟩
    · obtain rfl : j = M := by have := HG.out; omega
      have hend : (len1 : Int) ≤ (j : Int) ∨ ((j : Int) < (len1 : Int) ∧ (120 : Int) ≤ (j : Int)) := by have := HM.out; omega
      clear hj
      rcases hend with h | ⟨h, h'⟩
      · go_wp2_with (go_at_call 15; (with_reducible refine (told_any _).mono ?_); rintro e w3 ⟨rfl, hge⟩; have HGE := Lib.hid hge; clear hge)
        go_ret
        exact ⟨rfl, Grow.below (HGR.out.trans HGE.out)⟩
      · go_wp2_with (go_at_call 15; (with_reducible refine (told_any _).mono ?_); rintro e w3 ⟨rfl, hge⟩; have HGE := Lib.hid hge; clear hge)
        go_ret
        exact ⟨rfl, Grow.below (HGR.out.trans HGE.out)⟩

/-! ### THE ROW's STEP: WRITTEN OUT: LEAVE IT -/
set_option maxRecDepth 100000 in
theorem lifted (os : Os) (started : os.Started) (H : Type) (enc : TypeId × Value → H) :
    ReturnsInHanded {} Try.checked os 3 .any (Rows.corePinsSpec.pre6 enc Try.prog Try.f3 Rows.corePinsRow.domain false) (Rows.corePinsSpec.post enc Try.prog Try.f3 false true false false) := by
  refine returnsInHanded_of_change (C := Try.checked) own started (by kernel_rfl) Try.func3
    (ChangeSpec.witness6 (enc := enc) (C := Try.checked) false ⟨#[], #[.int .i64 0, .slice none 0 0], []⟩ 8 (by kernel_rfl) (by kernel_rfl) (by kernel_rfl) (by kernel_rfl)) ?_
  intro W base args ds gs before hval0 hW hcnd _
  have hval : ∀ (j : Nat) t v, Try.f3.params[j]? = some t → args[j]? = some v → Value.okWide Try.prog W .any base t v := hval0
  have hW' := hW
  obtain ⟨p, q, hA0, hV, rfl, hfz, hnd⟩ := hW
  have hA : DataW.TrodAll enc Try.prog W 0 (fun _ => true) true Try.f3.params.toList args.toList ds p := hA0
  rw [Try.params3] at hA hval
  obtain ⟨v0, vs0, d0, ds0, p0, q0, hargs, rfl, rfl, h0, r0⟩ := trodAll_cons hA
  obtain ⟨v1, vs1, d1, ds1, p1, q1, rfl, rfl, rfl, h1, r1⟩ := trodAll_cons r0
  obtain ⟨rfl, rfl, rfl⟩ := trodAll_nil r1
  obtain rfl : args = #[v0, v1] := by cases args; simp_all
  obtain ⟨rfl, rfl⟩ := trodVars_none hV
  obtain ⟨a0, rfl, rfl, rfl, w0⟩ := open_int Try.underlying3 (hval 0 3 v0 rfl rfl) h0
  obtain ⟨a1, len1, cap1, rfl⟩ := okWide_slice Try.underlying22 (hval 1 22 v1 rfl rfl)
  have k1 := h1
  have lt1 : ∀ x ∈ p1, x.block < W.heap.size := by obtain ⟨m, hm⟩ := k1; exact DataW.trod_lt m _ _ _ hm
  have w1 : OpsAt W a1 len1 cap1 := by obtain ⟨fuel, hf⟩ := h1; exact ops_open hf
  clear hA0 hval0
  refine (walk a0 a1 len1 cap1 W w0 w1).mono fun e W' ⟨he, bel⟩ => ?_
  subst he
  exact ⟨_, rfl, _, _, _, [], _, [], hW', trodAll_mk1 (shut_bool Try.underlying4 _), (trodAll_cons_mk (shut_int Try.underlying3 w0) (trodAll_cons_mk (Below.trod laidOut (by kernel_rfl) (of_decide_eq_true (by kernel_rfl)) k1 bel lt1) trodAll_mk0)), rfl, bel.frame _, fun h => by cases h⟩

theorem over : Rows.corePinsRow.holds Try.pinned (OpenSpec.ofChange Rows.corePinsSpec) :=
  OpenClaim.holds_of_wide 3 Try.f3 rfl rfl rfl rfl rfl rfl rfl ⟨rfl, rfl, rfl, rfl, rfl⟩ rfl rfl rfl rfl rfl (by kernel_rfl) Try.func3 (by kernel_rfl)
    (of_decide_eq_true (by kernel_rfl)) (by unfold Func.isWrapper; first | (rw [if_pos (by decide +kernel)]; kernel_rfl) | (rw [if_neg (by decide +kernel)]; exact ⟨rfl, rfl⟩))
    (fun os started H enc _ => lifted os started H enc)

/-- ████ THE STATEMENT ████ -/
theorem proved : Rows.CorePinsSaid := over
#print axioms proved
end Go.Proofs.Ytcmhkknoffeebaa.corePins
