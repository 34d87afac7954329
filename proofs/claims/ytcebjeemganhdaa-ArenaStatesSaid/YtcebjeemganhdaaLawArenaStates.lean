/-
  For every input the call of lavabolaw10.ArenaStates returns true and leaves its arguments as they were; no condition.
-/
import Derived.Test.YtcebjeemganhdaaTold10
import Derived.Test.YtcebjeemganhdaaArOpsIn
import Derived.Test.YtcebjeemganhdaaRows
import Derived.WalkKit
import Derived.ProofKit
import Derived.OpenShut
import Derived.ShutString
import Derived.ChangeOld
import Derived.Below
namespace Go.Proofs.Ytcebjeemganhdaa.arenaStates
open Go.ChangeShapes Go.WideShapes Go.ChangeAt Go.RowKit
open Go.ChangeMaps (open_string shut_string)
open Go.Proofs.Ytcebjeemganhdaa.Mem Go.Proofs.Ytcebjeemganhdaa.Blk Go.Proofs.Ytcebjeemganhdaa.Cells Go.Proofs.Ytcebjeemganhdaa.Orow Go.Proofs.Ytcebjeemganhdaa.TabM Go.Proofs.Ytcebjeemganhdaa.ArM Go.Proofs.Ytcebjeemganhdaa.ArC Go.Proofs.Ytcebjeemganhdaa.ArD Go.Proofs.Ytcebjeemganhdaa.ArR Go.Proofs.Ytcebjeemganhdaa.ArA Go.Proofs.Ytcebjeemganhdaa.ArB Go.Proofs.Ytcebjeemganhdaa.ArT Go.Proofs.Ytcebjeemganhdaa.ArN Go.Proofs.Ytcebjeemganhdaa.Told10 Go.Proofs.Ytcebjeemganhdaa.Ops5 Go.Proofs.Ytcebjeemganhdaa.Stages
set_option linter.unusedVariables false

theorem own : ownKnob Try.prog.godebug = none := by kernel_rfl
theorem laidOut : laidOutB Try.prog = true := by kernel_rfl

/-- WHAT THE WALK IS TOLD OF A SLICE OF INTEGERS THAT CAME IN: it is nil; or it leads to a row of 'cap' cells, the numbers 'zs' (the first 'len' are its elements, the rest its spare room), each fitting its kind. -/
def IsRow (k : IntKind) (w : World) (a : Option Addr) (len cap : Nat) (zs : List Int) : Prop :=
  (a = none ∧ len = 0 ∧ cap = 0 ∧ zs = []) ∨
  ∃ x, a = some x ∧ len ≤ cap ∧ cap ≤ maxLen ∧ zs.length = cap ∧ (∀ i, i < zs.length → w.cell? (x.add i) = some (.int k (zs.getD i 0))) ∧ ∀ n ∈ zs, (Lit.int k n).wf = true

theorem kind8 (a : Int) : ∃ (m K : Int), a.tmod 8 = m ∧ -8 < m ∧ m < 8 ∧ (m + 8).tmod 8 = K ∧ 0 ≤ K ∧ K < 8 := by
  have key : ∀ b : Int, 0 ≤ b → 0 ≤ b.tmod 8 ∧ b.tmod 8 < 8 := fun b hb => by
    rw [IntWalk.rem_in _ _ hb]
    omega
  have hb : -8 < a.tmod 8 ∧ a.tmod 8 < 8 := by
    by_cases h : 0 ≤ a
    · have := key a h
      omega
    · have := key (-a) (by omega)
      rw [Int.neg_tmod] at this
      omega
  obtain ⟨h0, h8⟩ := key (a.tmod 8 + 8) (by omega)
  exact ⟨_, _, rfl, hb.1, hb.2, rfl, h0, h8⟩
/-- What Take answers. -/
theorem take_spec {a : Ar} (g : ArM.Good a) {p : Int} (h0 : 0 ≤ p) (h1 : p < 48) : (0 ≤ a.find p ∧ a.takeC p = -1) ∨ (a.find p = -1 ∧ a.Q.length = 0 ∧ a.takeC p = -1) ∨ ∃ f : Nat, a.find p = -1 ∧ 0 < a.Q.length ∧ f < 32 ∧ a.takeC p = (f : Int) ∧ (a.take p).find p = (f : Int) := by
  rcases find_cases a p with ⟨e, hno⟩ | ⟨x, hx, hs, hp, e⟩
  · have ec : a.can p = true := by unfold Ar.can; rw [e, decide_eq_true h0, decide_eq_true h1]; rfl
    cases hq : a.Q with
    | nil => exact .inr (.inl ⟨e, rfl, by unfold Ar.takeC; rw [if_pos ec, hq]; rfl⟩)
    | cons f q =>
      obtain ⟨hf, _⟩ := g.head hq
      have e2 : a.take p = ⟨a.n, upd a.F f (fUsed p), upd a.B f zeros, q⟩ := by unfold Ar.take; rw [if_pos ec, hq]; rfl
      have g2 := g.take p
      have := g.n
      refine .inr (.inr ⟨f, e, by simp, by omega, by unfold Ar.takeC; rw [if_pos ec, hq]; rfl, ?_⟩)
      rw [e2] at g2 ⊢
      exact find_at g2 (x := f) hf (by show (upd a.F f (fUsed p) f).st = 1; rw [upd_same]; rfl) (by show (upd a.F f (fUsed p) f).pg = p; rw [upd_same]; rfl)
  · refine .inl ⟨by omega, ?_⟩
    unfold Ar.takeC Ar.can
    rw [e, decide_eq_false (show ¬ (x : Int) < 0 by omega), Bool.and_false]
    rfl
def isF (a : Ar) (x : Nat) : Bool := decide ((a.F x).st = 0)
theorem os_sl {w : World} {G : Nat → Prop} {v : Value} {t : TypeId} {s n : Nat} {f : Nat → Value} (h : OS w G v t s n f) : ∃ A c, v = .slice A n c ∧ (0 < n → ∃ g, A = some ⟨g, 0, none⟩ ∧ OR w g t s c n f) := by
  rcases h with ⟨e, h0⟩ | ⟨g, c, e, ho, _⟩
  · exact ⟨none, 0, by rw [e, h0], fun h => by omega⟩
  · exact ⟨_, c, e, fun _ => ⟨g, rfl, ho⟩⟩
/-- What a look at frame x shows. -/
theorem frame_cases {a : Ar} (g : ArM.Good a) {x : Nat} (hx : x < a.n) : ((a.F x).st = 1 ∧ a.find (a.F x).pg = (x : Int) ∧ isF a x = false) ∨ ((a.F x).st = 0 ∧ (a.F x).pg = -1 ∧ (a.F x).pn = 0 ∧ (a.F x).di = false ∧ isF a x = true) ∨ ((a.F x).st = 4 ∧ (a.F x).pg = -1 ∧ (a.F x).pn = 0 ∧ (a.F x).di = false ∧ isF a x = false) := by
  rcases g.st x hx with h | h | h
  · obtain ⟨h1, h2, h3⟩ := g.rest x hx (by omega)
    exact .inr (.inl ⟨h, h1, h2, h3, decide_eq_true h⟩)
  · exact .inl ⟨h, find_at g hx h rfl, decide_eq_false (by omega)⟩
  · obtain ⟨h1, h2, h3⟩ := g.rest x hx (by omega)
    exact .inr (.inr ⟨h, h1, h2, h3, decide_eq_false (by omega)⟩)
theorem cnt_on1 {f : Nat → Bool} {n : Nat} (h : f n = true) : cnt f (n + 1) = cnt f n + 1 := by show cnt f n + (if f n = true then 1 else 0) = _; rw [if_pos h]
theorem cnt_off1 {f : Nat → Bool} {n : Nat} (h : f n = false) : cnt f (n + 1) = cnt f n := by show cnt f n + (if f n = true then 1 else 0) = _; rw [h]; rfl
def CLoop (a : Ar) (wx : World) (g : Nat) (v i : Value) (wy : World) : Prop := ∃ j : Nat, j + g = a.n ∧ v = .int .i64 ((cnt (isF a) j : Nat) : Int) ∧ i = .int .i64 (j : Int) ∧ wx = wy
def SInv (w : World) (B : Nat) (wx : World) : Prop := ∃ a, ArAt wx (B ≤ ·) B a ∧ Grow w wx
def SLoop (w : World) (B M g : Nat) (i : Value) (wx : World) : Prop := ∃ j : Nat, j + g = M ∧ i = .int .i64 (j : Int) ∧ SInv w B wx

/-! ### STEP 1: THE WALK: the Go text returns true, AND WRITES NOTHING THAT WAS THERE: 'Below w.heap.size w w'' (Derived/Below.lean: '.refl', '.alloc', '.drew', '.setCell' at a new block, '.trans'). Open each 'IsRow' by 'rcases' AHEAD of 'go_enter'; part every test ahead of the walk. -/
set_option maxHeartbeats 8000000 in
set_option maxRecDepth 100000 in
theorem walk (a0 : Int) (a1 : Option Addr) (len1 cap1 : Nat) (w : World) (w0 : (Lit.int .i64 a0).wf = true) (w1 : OpsAt w a1 len1 cap1) :
    Calls Try.prog 4 #[.int .i64 a0, .slice a1 len1 cap1] w fun e w' => e = .returned (.bool true) ∧ Below w.heap.size w w' := by
  have k0 := bounds_i64 w0
  obtain ⟨hlc, hcm, hops⟩ := w1
  unfold maxLen at hcm
  have HOPS := Lib.hid hops
  clear hops
  obtain ⟨q, hq, hq13⟩ := tmod_nat a0 13 (by omega)
  simp only [Int.cast_ofNat_Int] at hq
  have HN := Lib.hid (new_good (w := w) q (by omega))
  obtain ⟨B, hB⟩ : ∃ B, B = w.heap.size := ⟨_, rfl⟩
  have HB := Lib.hid hB
  have CN : Hid (Calls Try.prog 8 #[.int .i64 (q : Int)] w fun e w' => e = .returned (.pointer (some ⟨B, 0, none⟩)) ∧ ArAt w' (B ≤ ·) B (ArM.fresh q) ∧ Grow w w') := by rw [hB]; exact HN
  clear hB HN
  obtain ⟨M, hM⟩ : ∃ M : Nat, M = min len1 100 := ⟨_, rfl⟩
  have HM := Lib.hid hM
  have hM1 : M ≤ len1 := by omega
  have hM100 : M ≤ 100 := by omega
  clear hM
  go_enter Try.func4, Try.ntmps4
  go_wp2_with (go_at_call 8; (with_reducible refine CN.out.mono ?_); rintro e w1 ⟨rfl, ha, hg⟩; have HA := Lib.hid ha; have G0 := Lib.hid hg; clear ha hg)
  clear hq hq13
  go_loopg [6] M (SLoop w B M)
  case atStart => exact ⟨0, by omega, rfl, _, HA.out, G0.out⟩
  case round =>
    obtain ⟨j, hg, rfl, a, har, hgr⟩ := hrel
    have HG := Lib.hid hg
    have HAR := Lib.hid har
    have HGR := Lib.hid hgr
    clear hg har hgr HA G0
    by_cases hj : j < M
    · have HJ := Lib.hid hj
      have hjz : (j : Int) < (len1 : Int) := by omega
      have hj100 : (j : Int) < 100 := by omega
      obtain ⟨ab, ao, rfl, hab, hall⟩ := HOPS.out (by omega)
      obtain ⟨x, hx⟩ := hall j (by omega)
      have ck := HGR.out.cellN hx.k id
      have cp := HGR.out.cellN hx.p id
      have cn := HGR.out.cellN hx.n id
      obtain ⟨P, hP, hP20⟩ := tmod_nat x.p 20 (by omega)
      obtain ⟨Fq, hF, hF14⟩ := tmod_nat x.n 14 (by omega)
      simp only [Int.cast_ofNat_Int] at hP hF
      obtain ⟨km, K, hkm, hk1, hk2, hK, hK0, hK8⟩ := kind8 x.k
      have kB := hx.kB
      have HX := Lib.hid hx
      clear hall hx hj
      have q1 := up_cell (F := fun _ => False) (w := wr.drew) cp id
      have q2 := up_cell (F := fun _ => False) (w := wr.drew) cn id
      clear cp cn
      go_upto_region 7 with (fail)
      refine wp_region_stages Grow (kept_refl _) (kept_trans _) [] [0, 1, 2, 3, 4, 5, 6, 7, 8, 9, 10, 11, 12, 13, 14, 15, 16, 17] (by kernel_rfl) (by kernel_rfl) ?_
      simp only [selSt, sel, List.map_cons, List.map_nil, List.getD_cons_succ, List.getD_cons_zero]
      refine st_nil fun K4 hK4 => ?_
      repeat (go_big_quiet_step (fail))
      refine wpQuiet_nil (hK4 _ ?_)
      clear hK4 K4 q1 q2 hP hF
      have HAD := Lib.hid (HAR.out.grow (Kept.drew' wr))
      have HGD := Lib.hid (HGR.out.drew)
      have ck : wr.drew.cell? ⟨ab, ao + j * 5, none⟩ = some (.int .i64 x.k) := ck
      go_upto_block 2 with (fail)
      clear hkm hK ck kB hk1 hk2
      have hPz : (P : Int) < 20 := by omega
      have hFz : (Fq : Int) < 14 := by omega
      have HFI := Lib.hid (find_any HAD.out (P : Int))
      have HFR := Lib.hid (free_any HAD.out)
      go_cut [10, 11, 12] from 57 to 112 (fun _ _ _ wx => SInv w B wx)
      case first =>
        by_cases hk3 : K < 3
        · have HT := Lib.hid (take_any HAD.out (P : Int))
          rcases take_spec HAD.out.good (p := (P : Int)) (by omega) (by omega) with ⟨e1, e2⟩ | ⟨e1, e2, e3⟩ | ⟨f, e1, e2, e3, e4, e5⟩
          · rw [e2] at HT
            clear e2 hK0 hK8
            generalize a.find (P : Int) = fz at *
            have hq0 : (0 : Int) ≤ (a.Q.length : Int) := by omega
            generalize (a.Q.length : Int) = qz at *
            go_wp2_with (first
              | (go_at_call 27; (with_reducible refine HFI.out.mono ?_); rintro e w' ⟨rfl, rfl⟩)
              | (go_at_call 30; (with_reducible refine HFR.out.mono ?_); rintro e w' ⟨rfl, rfl⟩)
              | (go_at_call 11; (with_reducible refine HT.out.mono ?_); rintro e w2 ⟨rfl, ha, hk⟩; have HA2 := Lib.hid ha; have HK2 := Lib.hid hk; clear ha hk))
            go_meet
            exact ⟨_, HA2.out, HGD.out.then HK2.out fun k hk e => by have := HB.out; omega⟩
          · rw [e3] at HT
            rw [e1] at HFI
            rw [e2] at HFR
            simp only [Int.natCast_zero, Int.cast_ofNat_Int] at HFR
            clear e1 e2 e3 hK0 hK8
            go_wp2_with (first
              | (go_at_call 27; (with_reducible refine HFI.out.mono ?_); rintro e w' ⟨rfl, rfl⟩)
              | (go_at_call 30; (with_reducible refine HFR.out.mono ?_); rintro e w' ⟨rfl, rfl⟩)
              | (go_at_call 11; (with_reducible refine HT.out.mono ?_); rintro e w2 ⟨rfl, ha, hk⟩; have HA2 := Lib.hid ha; have HK2 := Lib.hid hk; clear ha hk))
            go_meet
            exact ⟨_, HA2.out, HGD.out.then HK2.out fun k hk e => by have := HB.out; omega⟩
          · rw [e4] at HT
            rw [e1] at HFI
            have hq0 : ((a.Q.length : Int) == 0) = false := by rw [beq_eq_false_iff_ne]; omega
            have HF2 : Hid (∀ wx, ArAt wx (B ≤ ·) B (a.take (P : Int)) → Calls Try.prog 27 #[.pointer (some ⟨B, 0, none⟩), .int .i64 (P : Int)] wx fun e w' => e = .returned (.int .i64 (f : Int)) ∧ wx = w') := fun wx h => by
              have := find_any h (P : Int)
              rwa [e5] at this
            have hfz : (f : Int) < 32 := by omega
            clear e1 e2 e3 e4 e5 hK0 hK8
            generalize (a.Q.length : Int) = qz at *
            go_wp2_with (first
              | (go_at_call 27; (with_reducible refine HFI.out.mono ?_); rintro e w' ⟨rfl, rfl⟩)
              | (go_at_call 30; (with_reducible refine HFR.out.mono ?_); rintro e w' ⟨rfl, rfl⟩)
              | (go_at_call 11; (with_reducible refine HT.out.mono ?_); rintro e w2 ⟨rfl, ha, hk⟩; have HA2 := Lib.hid ha; have HK2 := Lib.hid hk; clear ha hk)
              | (go_at_call 27; (with_reducible refine (HF2.out _ HA2.out).mono ?_); rintro e w' ⟨rfl, rfl⟩))
            go_meet
            exact ⟨_, HA2.out, HGD.out.then HK2.out fun k hk e => by have := HB.out; omega⟩
        · clear HFI HFR
          have hk3' : 3 ≤ K := by omega
          have hcs : K = 3 ∨ K = 4 ∨ K = 5 ∨ K = 6 ∨ K = 7 := by omega
          clear hk3 hK0 hK8 hk3'
          rcases hcs with rfl | rfl | rfl | rfl | rfl
          · go_wp2_with (go_at_call 13; (with_reducible refine (pin_any HAD.out (Fq : Int)).mono ?_); rintro e w2 ⟨rfl, ha, hk⟩; have HA2 := Lib.hid ha; have HK2 := Lib.hid hk; clear ha hk)
            go_meet
            exact ⟨_, HA2.out, HGD.out.then HK2.out fun k hk e => by have := HB.out; omega⟩
          · go_wp2_with (go_at_call 15; (with_reducible refine (unpin_any HAD.out (Fq : Int)).mono ?_); rintro e w2 ⟨rfl, ha, hk⟩; have HA2 := Lib.hid ha; have HK2 := Lib.hid hk; clear ha hk)
            go_meet
            exact ⟨_, HA2.out, HGD.out.then HK2.out fun k hk e => by have := HB.out; omega⟩
          · go_wp2_with (go_at_call 21; (with_reducible refine (drop_any HAD.out (Fq : Int)).mono ?_); rintro e w2 ⟨rfl, ha, hk⟩; have HA2 := Lib.hid ha; have HK2 := Lib.hid hk; clear ha hk)
            go_meet
            exact ⟨_, HA2.out, HGD.out.then HK2.out fun k hk e => by have := HB.out; omega⟩
          · have HADD := Lib.hid (add_any HAD.out fun k hk => by have h1 := HGD.out.size; have h2 := HB.out; omega)
            go_wp2_with (go_at_call 23; (with_reducible refine HADD.out.mono ?_); rintro e w2 ⟨rfl, ha, hk⟩; have HA2 := Lib.hid ha; have HK2 := Lib.hid hk; clear ha hk)
            go_meet
            exact ⟨_, HA2.out, HGD.out.then HK2.out fun k hk e => by have := HB.out; omega⟩
          · go_wp2_with (go_at_call 25; (with_reducible refine (retire_any HAD.out).mono ?_); rintro e w2 ⟨rfl, ha, hk⟩; have HA2 := Lib.hid ha; have HK2 := Lib.hid hk; clear ha hk)
            go_meet
            exact ⟨_, HA2.out, HGD.out.then HK2.out fun k hk e => by have := HB.out; omega⟩
      case rest =>
        clear HAR HGR HAD HGD HFI HFR a
        obtain ⟨a, har, hgr⟩ := hcut
        have HAR := Lib.hid har
        have HGR := Lib.hid hgr
        have hn32 := har.good.n
        clear har hgr
        have HFM := Lib.hid (frames_any HAR.out)
        go_upto_region 25 with (go_at_call 31; (with_reducible refine HFM.out.mono ?_); rintro e w3 ⟨v, rfl, ho, hg⟩; have HO := Lib.hid ho; have HG3 := Lib.hid hg; clear ho hg)
        obtain ⟨A, c, rfl, hor⟩ := os_sl HO.out
        have HOR := Lib.hid hor
        have HA3 := Lib.hid (HAR.out.grow HG3.out)
        have HGR3 := Lib.hid (HGR.out.trans HG3.out)
        have hnz : (a.n : Int) ≤ 32 := by omega
        clear hor HO HFM HAR HGR
        go_wp2_with (fail)
        go_loopg [14, 15] a.n (CLoop a w3)
        case atStart => exact ⟨0, by omega, rfl, rfl, rfl⟩
        case round =>
          obtain ⟨p, hg2, rfl, rfl, rfl⟩ := hrel
          have HG2 := Lib.hid hg2
          have hcz : ((cnt (isF a) p : Nat) : Int) ≤ 32 := by have := cnt_le (isF a) p; omega
          clear hg2
          by_cases hp : p < a.n
          · have HP := Lib.hid hp
            have hpz : (p : Int) < (a.n : Int) := by omega
            obtain ⟨g, rfl, ho⟩ := HOR.out (by omega)
            have c0 := FR.c0 ho hp
            have c1 := FR.c1 ho hp
            have c2 := FR.c2 ho hp
            have c4 := FR.c4 ho hp
            have HFP := Lib.hid (find_any HA3.out (a.F p).pg)
            rcases frame_cases HA3.out.good hp with ⟨e1, e2, e3⟩ | ⟨e1, e2, e3, e4, e5⟩ | ⟨e1, e2, e3, e4, e5⟩
            · have HCN := Lib.hid (cnt_off1 e3)
              rw [e1] at c0
              rw [e2] at HFP
              clear e1 e2 e3 ho hp
              generalize cnt (isF a) p = C at *
              generalize (a.F p).pg = pg at *
              generalize (a.F p).pn = pn at *
              generalize (a.F p).di = di at *
              go_wp2_with (go_at_call 27; (with_reducible refine HFP.out.mono ?_); rintro e w' ⟨rfl, rfl⟩)
              go_roundg (gk - 1)
              case measure => have := HG2.out; have := HP.out; omega
              case rel => exact ⟨p + 1, by have := HG2.out; have := HP.out; omega, by rw [HCN.out], by go_num, rfl⟩
            · have HCN := Lib.hid (cnt_on1 e5)
              rw [e1] at c0
              rw [e2] at c1
              rw [e3] at c2
              rw [e4] at c4
              clear e1 e2 e3 e4 e5 ho hp HFP
              generalize cnt (isF a) p = C at *
              go_wp2_with (fail)
              go_roundg (gk - 1)
              case measure => have := HG2.out; have := HP.out; omega
              case rel => exact ⟨p + 1, by have := HG2.out; have := HP.out; omega, by rw [HCN.out]; go_num, by go_num, rfl⟩
            · have HCN := Lib.hid (cnt_off1 e5)
              rw [e1] at c0
              rw [e2] at c1
              rw [e3] at c2
              rw [e4] at c4
              clear e1 e2 e3 e4 e5 ho hp HFP
              generalize cnt (isF a) p = C at *
              go_wp2_with (fail)
              go_roundg (gk - 1)
              case measure => have := HG2.out; have := HP.out; omega
              case rel => exact ⟨p + 1, by have := HG2.out; have := HP.out; omega, by rw [HCN.out], by go_num, rfl⟩
          · obtain rfl : p = a.n := by have := HG2.out; omega
            have HFQ := free_any HA3.out
            rw [HA3.out.good.free] at HFQ
            have HFQ' : Hid (Calls Try.prog 30 #[.pointer (some ⟨B, 0, none⟩)] w3 fun e w' => e = .returned (.int .i64 ((cnt (isF a) a.n : Nat) : Int)) ∧ w3 = w') := HFQ
            clear HFQ hp
            generalize cnt (isF a) a.n = C at *
            go_wp2_with (go_at_call 30; (with_reducible refine HFQ'.out.mono ?_); rintro e w' ⟨rfl, rfl⟩)
            go_roundg (M - (j + 1))
            case measure => have := HG.out; have := HJ.out; omega
            case rel => exact ⟨j + 1, by have := HG.out; have := HJ.out; omega, by go_num, a, HA3.out, HGR3.out⟩
    · obtain rfl : j = M := by have := HG.out; omega
      have hend : (len1 : Int) ≤ (j : Int) ∨ ((j : Int) < (len1 : Int) ∧ (100 : Int) ≤ (j : Int)) := by have := HM.out; omega
      clear hj
      rcases hend with h | ⟨h, h'⟩
      · go_wp2_with (go_at_call 10; (with_reducible refine (told_any _).mono ?_); rintro e w3 ⟨rfl, hge⟩; have HGE := Lib.hid hge; clear hge)
        go_ret
        exact ⟨rfl, Grow.below (HGR.out.trans HGE.out)⟩
      · go_wp2_with (go_at_call 10; (with_reducible refine (told_any _).mono ?_); rintro e w3 ⟨rfl, hge⟩; have HGE := Lib.hid hge; clear hge)
        go_ret
        exact ⟨rfl, Grow.below (HGR.out.trans HGE.out)⟩

/-! ### THE ROW's STEP: WRITTEN OUT: LEAVE IT -/
set_option maxRecDepth 100000 in
theorem lifted (os : Os) (started : os.Started) (H : Type) (enc : TypeId × Value → H) :
    ReturnsInHanded {} Try.checked os 4 .any (Rows.arenaStatesSpec.pre6 enc Try.prog Try.f4 Rows.arenaStatesRow.domain false) (Rows.arenaStatesSpec.post enc Try.prog Try.f4 false true false false) := by
  refine returnsInHanded_of_change (C := Try.checked) own started (by kernel_rfl) Try.func4
    (ChangeSpec.witness6 (enc := enc) (C := Try.checked) false ⟨#[], #[.int .i64 0, .slice none 0 0], []⟩ 8 (by kernel_rfl) (by kernel_rfl) (by kernel_rfl) (by kernel_rfl)) ?_
  intro W base args ds gs before hval0 hW hcnd _
  have hval : ∀ (j : Nat) t v, Try.f4.params[j]? = some t → args[j]? = some v → Value.okWide Try.prog W .any base t v := hval0
  have hW' := hW
  obtain ⟨p, q, hA0, hV, rfl, hfz, hnd⟩ := hW
  have hA : DataW.TrodAll enc Try.prog W 0 (fun _ => true) true Try.f4.params.toList args.toList ds p := hA0
  rw [Try.params4] at hA hval
  obtain ⟨v0, vs0, d0, ds0, p0, q0, hargs, rfl, rfl, h0, r0⟩ := trodAll_cons hA
  obtain ⟨v1, vs1, d1, ds1, p1, q1, rfl, rfl, rfl, h1, r1⟩ := trodAll_cons r0
  obtain ⟨rfl, rfl, rfl⟩ := trodAll_nil r1
  obtain rfl : args = #[v0, v1] := by cases args; simp_all
  obtain ⟨rfl, rfl⟩ := trodVars_none hV
  obtain ⟨a0, rfl, rfl, rfl, w0⟩ := open_int Try.underlying3 (hval 0 3 v0 rfl rfl) h0
  obtain ⟨a1, len1, cap1, rfl⟩ := okWide_slice Try.underlying22 (hval 1 22 v1 rfl rfl)
  have k1 := h1
  have lt1 : ∀ x ∈ p1, x.block < W.heap.size := by obtain ⟨m, hm⟩ := k1; exact DataW.trod_lt m _ _ _ hm
  have w1 : OpsAt W a1 len1 cap1 := by obtain ⟨fuel, hf⟩ := h1; exact ops_open hf
  clear hA0 hval0
  refine (walk a0 a1 len1 cap1 W w0 w1).mono fun e W' ⟨he, bel⟩ => ?_
  subst he
  exact ⟨_, rfl, _, _, _, [], _, [], hW', trodAll_mk1 (shut_bool Try.underlying4 _), (trodAll_cons_mk (shut_int Try.underlying3 w0) (trodAll_cons_mk (Below.trod laidOut (by kernel_rfl) (of_decide_eq_true (by kernel_rfl)) k1 bel lt1) trodAll_mk0)), rfl, bel.frame _, fun h => by cases h⟩

theorem over : Rows.arenaStatesRow.holds Try.pinned (OpenSpec.ofChange Rows.arenaStatesSpec) :=
  OpenClaim.holds_of_wide 4 Try.f4 rfl rfl rfl rfl rfl rfl rfl ⟨rfl, rfl, rfl, rfl, rfl⟩ rfl rfl rfl rfl rfl (by kernel_rfl) Try.func4 (by kernel_rfl)
    (of_decide_eq_true (by kernel_rfl)) (by unfold Func.isWrapper; first | (rw [if_pos (by decide +kernel)]; kernel_rfl) | (rw [if_neg (by decide +kernel)]; exact ⟨rfl, rfl⟩))
    (fun os started H enc _ => lifted os started H enc)

/-- ████ THE STATEMENT ████ -/
theorem proved : Rows.ArenaStatesSaid := over
#print axioms proved
end Go.Proofs.Ytcebjeemganhdaa.arenaStates
