/-
  For every input the call of lavabolaw10.ArenaPlays returns true and leaves its arguments as they were; no condition.
-/
import Derived.Test.YtcebjeemganhdaaTold10
import Derived.Test.YtcebjeemganhdaaArTwo
import Derived.Test.YtcebjeemganhdaaArOpsIn
import Derived.Test.YtcebjeemganhdaaTrees
import Derived.Deep.CutBlock
import Derived.Test.YtcebjeemganhdaaRows
import Derived.WalkKit
import Derived.ProofKit
import Derived.OpenShut
import Derived.ShutString
import Derived.ChangeOld
import Derived.Below
namespace Go.Proofs.Ytcebjeemganhdaa.arenaPlays
open Go.ChangeShapes Go.WideShapes Go.ChangeAt Go.RowKit
open Go.ChangeMaps (open_string shut_string)
open Go.Proofs.Ytcebjeemganhdaa.Mem Go.Proofs.Ytcebjeemganhdaa.Blk Go.Proofs.Ytcebjeemganhdaa.Cells Go.Proofs.Ytcebjeemganhdaa.Orow Go.Proofs.Ytcebjeemganhdaa.TabM Go.Proofs.Ytcebjeemganhdaa.ArM Go.Proofs.Ytcebjeemganhdaa.ArC Go.Proofs.Ytcebjeemganhdaa.ArD Go.Proofs.Ytcebjeemganhdaa.ArR Go.Proofs.Ytcebjeemganhdaa.ArA Go.Proofs.Ytcebjeemganhdaa.ArB Go.Proofs.Ytcebjeemganhdaa.ArT Go.Proofs.Ytcebjeemganhdaa.ArN Go.Proofs.Ytcebjeemganhdaa.ArTwo Go.Proofs.Ytcebjeemganhdaa.Told10 Go.Proofs.Ytcebjeemganhdaa.Ops5 Go.Proofs.Ytcebjeemganhdaa.Stages
set_option linter.unusedVariables false

theorem own : ownKnob Try.prog.godebug = none := by kernel_rfl
theorem laidOut : laidOutB Try.prog = true := by kernel_rfl

/-- WHAT THE WALK IS TOLD OF A SLICE OF INTEGERS THAT CAME IN: it is nil; or it leads to a row of 'cap' cells, the numbers 'zs' (the first 'len' are its elements, the rest its spare room), each fitting its kind. -/
def IsRow (k : IntKind) (w : World) (a : Option Addr) (len cap : Nat) (zs : List Int) : Prop :=
  (a = none ∧ len = 0 ∧ cap = 0 ∧ zs = []) ∨
  ∃ x, a = some x ∧ len ≤ cap ∧ cap ≤ maxLen ∧ zs.length = cap ∧ (∀ i, i < zs.length → w.cell? (x.add i) = some (.int k (zs.getD i 0))) ∧ ∀ n ∈ zs, (Lit.int k n).wf = true

theorem kind10 (a : Int) : ∃ (m K : Int), a.tmod 10 = m ∧ -10 < m ∧ m < 10 ∧ (m + 10).tmod 10 = K ∧ 0 ≤ K ∧ K < 10 := by
  have key : ∀ b : Int, 0 ≤ b → 0 ≤ b.tmod 10 ∧ b.tmod 10 < 10 := fun b hb => by
    rw [IntWalk.rem_in _ _ hb]
    omega
  have hb : -10 < a.tmod 10 ∧ a.tmod 10 < 10 := by
    by_cases h : 0 ≤ a
    · have := key a h
      omega
    · have := key (-a) (by omega)
      rw [Int.neg_tmod] at this
      omega
  obtain ⟨h0, h8⟩ := key (a.tmod 10 + 10) (by omega)
  exact ⟨_, _, rfl, hb.1, hb.2, rfl, h0, h8⟩
theorem two_new {w w1 w2 : World} {a : Ar} (h1 : ArAt w1 (w.heap.size ≤ ·) w.heap.size a) (h2 : ArRefC.RAt w2 (w1.heap.size ≤ ·) w1.heap.size a) (g1 : Grow w w1) (g2 : Grow w1 w2) : Two (w.heap.size ≤ ·) w.heap.size w1.heap.size w2 a := by
  have s1 := g1.size
  have s2 := g2.size
  refine ⟨fun k => w.heap.size ≤ k ∧ k < w1.heap.size, fun k => w1.heap.size ≤ k ∧ k < w2.heap.size, (h1.mono fun k hk x => ⟨x, hk⟩).grow g2, RAt.mono h2 fun k hk x => ⟨x, hk⟩, ?_, ?_, ?_⟩
  · rintro k ⟨_, x⟩ ⟨y, _⟩; omega
  · rintro k ⟨x, y⟩; exact ⟨x, by omega⟩
  · rintro k ⟨x, y⟩; exact ⟨by show _ ≤ _; omega, y⟩
/-- The blocks that both may write, a step's box apart. -/
def XB (B g : Nat) (k : Nat) : Prop := B ≤ k ∧ k ≠ g
theorem two_box {B m : Nat} {wr : World} {a : Ar} (h : Two (B ≤ ·) B m wr a) (o : Obj) : Two (XB B wr.heap.size) B m (wr.alloc o) a :=
  (h.mono (Y := XB B wr.heap.size) fun k hk x => ⟨x, Nat.ne_of_lt hk⟩).grow ((Kept.refl _ _).alloc _)
def PInv (w : World) (B m : Nat) (wx : World) : Prop := ∃ a, Two (B ≤ ·) B m wx a ∧ Grow w wx
def PLoop (w : World) (B m M g : Nat) (i : Value) (wx : World) : Prop := ∃ j : Nat, j + g = M ∧ i = .int .i64 (j : Int) ∧ PInv w B m wx
/-- Both answered the same, and stand the same. -/
def PCut (B m g : Nat) (wa : World) (x y : Value) (wx : World) : Prop := ∃ (z : Int) (a : Ar), x = .int .i64 z ∧ y = .int .i64 z ∧ Two (XB B g) B m wx a ∧ Kept (XB B g) wa wx

/-! ### STEP 1: THE WALK: the Go text returns true, AND WRITES NOTHING THAT WAS THERE: 'Below w.heap.size w w'' (Derived/Below.lean: '.refl', '.alloc', '.drew', '.setCell' at a new block, '.trans'). Open each 'IsRow' by 'rcases' AHEAD of 'go_enter'; part every test ahead of the walk. -/
set_option maxHeartbeats 8000000 in
set_option maxRecDepth 100000 in
theorem walk (a0 : Int) (a1 : Option Addr) (len1 cap1 : Nat) (w : World) (w0 : (Lit.int .i64 a0).wf = true) (w1 : OpsAt w a1 len1 cap1) :
    Calls Try.prog 3 #[.int .i64 a0, .slice a1 len1 cap1] w fun e w' => e = .returned (.bool true) ∧ Below w.heap.size w w' := by
  have k0 := bounds_i64 w0
  obtain ⟨hlc, hcm, hops⟩ := w1
  unfold maxLen at hcm
  have HOPS := Lib.hid hops
  clear hops
  by_cases hpg : 0 ≤ a0 ∧ a0 ≤ 32
  · obtain ⟨hp0, hp32⟩ := hpg
    obtain ⟨N, rfl⟩ := Int.eq_ofNat_of_zero_le hp0
    have hN32 : N ≤ 32 := by omega
    have CN := Lib.hid (new_good (w := w) N hN32)
    have CR : Hid (∀ wx, Calls Try.prog 9 #[.int .i64 (N : Int)] wx (ArRefN.RNewPost N wx)) := fun wx => ArRefN.rnew_good N hN32
    clear hp0 hp32 hN32
    go_enter Try.func3, Try.ntmps3
    go_upto_region 6 with (first
      | (go_at_call 8; (with_reducible refine CN.out.mono ?_); rintro e w1 ⟨rfl, ha, hg⟩; have HA1 := Lib.hid ha; have HG1 := Lib.hid hg; clear ha hg)
      | (go_at_call 9; (with_reducible refine (CR.out _).mono ?_); rintro e w2 ⟨rfl, ha, hg⟩; have HA2 := Lib.hid ha; have HG2 := Lib.hid hg; clear ha hg))
    have HGG : Hid (Grow w w2) := HG1.out.trans HG2.out
    by_cases h120 : 120 < len1
    · have h120z : (120 : Int) < (len1 : Int) := by omega
      go_wp2_with (go_at_call 10; (with_reducible refine (told_any _).mono ?_); rintro e w3 ⟨rfl, hge⟩; have HGE := Lib.hid hge; clear hge)
      go_ret
      exact ⟨rfl, Grow.below (HGG.out.trans HGE.out)⟩
    · have h120z : (len1 : Int) ≤ 120 := by omega
      have HT0 := Lib.hid (two_new HA1.out HA2.out HG1.out HG2.out)
      clear HA1 HA2 HG1 HG2 CN CR h120
      obtain ⟨B, hB⟩ : ∃ B, B = w.heap.size := ⟨_, rfl⟩
      have HB := Lib.hid hB
      rw [← hB] at HT0 ⊢
      clear hB
      generalize w1.heap.size = m at HT0 ⊢
      go_wp2
      go_loopg [7] len1 (PLoop w B m len1)
      case atStart => exact ⟨0, by omega, rfl, _, HT0.out, HGG.out⟩
      case round =>
        obtain ⟨j, hg, rfl, a, htw, hgr⟩ := hrel
        have HT := Lib.hid htw
        have HGR := Lib.hid hgr
        have HG := Lib.hid hg
        clear htw hgr hg HT0 HGG
        by_cases hj : j < len1
        · have hjz : (j : Int) < (len1 : Int) := by omega
          have HJ := Lib.hid hj
          obtain ⟨ab, ao, rfl, hab, hall⟩ := HOPS.out (by omega)
          obtain ⟨x, hx⟩ := hall j hj
          have ck := HGR.out.cellN hx.k id
          have cp := HGR.out.cellN hx.p id
          have cn := HGR.out.cellN hx.n id
          have cc := HGR.out.cellN hx.c id
          have cs := HGR.out.cellN hx.s id
          have kB := hx.kB
          have HX := Lib.hid hx
          clear hall hx hj
          obtain ⟨km, K, hkm, hk1, hk2, hK, hK0, hK10⟩ := kind10 x.k
          have cl : (x.len : Int) ≤ 9223372036854775807 := by have := HX.out.lenB; unfold maxLen at this; omega
          by_cases h30 : 30 < x.len
          · have h30z : (30 : Int) < (x.len : Int) := by omega
            clear hK hkm hk1 hk2 hK0 hK10
            go_wp2_with (go_at_call 10; (with_reducible refine (told_any _).mono ?_); rintro e w3 ⟨rfl, hge⟩; have HGE := Lib.hid hge; clear hge)
            go_ret
            exact ⟨rfl, Grow.below ((HGR.out.alloc _).trans HGE.out)⟩
          · have h30z : (x.len : Int) ≤ 30 := by omega
            go_upto_block 2 with (fail)
            clear hK hkm hk1 hk2 ck cp cn cc cs kB cl hjz
            have HTA := Lib.hid (two_box HT.out (.cells #[Value.int .i64 x.k, Value.int .i64 x.p, Value.int .i64 x.n, Value.bool x.c, Value.slice x.A x.len x.cap] 30))
            have HGA : Hid (Grow w (wr.alloc (.cells #[Value.int .i64 x.k, Value.int .i64 x.p, Value.int .i64 x.n, Value.bool x.c, Value.slice x.A x.len x.cap] 30))) := HGR.out.alloc _
            have HBA := Lib.hid (Blk.new wr 30 [Value.int .i64 x.k, Value.int .i64 x.p, Value.int .i64 x.n, Value.bool x.c, Value.slice x.A x.len x.cap])
            clear HT HGR
            generalize wr.alloc (.cells #[Value.int .i64 x.k, Value.int .i64 x.p, Value.int .i64 x.n, Value.bool x.c, Value.slice x.A x.len x.cap] 30) = wa at HTA HGA HBA ⊢
            generalize wr.heap.size = gb at HTA HBA ⊢
            have HNX : Hid (¬ XB B gb gb) := fun h => h.2 rfl
            have HXN : Hid (∀ k, wa.drew.heap.size ≤ k → XB B gb k) := fun k hk => by
              have h1 := HGA.out.size
              have h2 := HB.out
              have h3 := HBA.out.lt
              have hk : wa.heap.size ≤ k := hk
              exact ⟨by omega, by omega⟩
            have HXW : Hid (∀ k, wa.heap.size ≤ k → XB B gb k) := HXN.out
            have o1 : wa.cell? ⟨gb, 1, none⟩ = some (.int .i64 x.p) := HBA.out.cell 1
            have o2 : wa.cell? ⟨gb, 2, none⟩ = some (.int .i64 x.n) := HBA.out.cell 2
            have o3 : wa.cell? ⟨gb, 3, none⟩ = some (.bool x.c) := HBA.out.cell 3
            have o4 : wa.cell? ⟨gb, 4, none⟩ = some (.slice x.A x.len x.cap) := HBA.out.cell 4
            have HO1 := Lib.hid o1
            have HTD : Hid (Two (XB B gb) B m wa.drew a) := HTA.out.grow (Kept.drew' wa)
            have HSL : Hid (∀ w', Kept (XB B gb) wa.drew w' → Sl w' w.heap.size .u8 x.A x.len x.zs) := fun w' hk => by
              have h0 := HGA.out.size
              have h1 : Kept (XB B gb) wa w' := (Kept.drew' wa).trans hk
              exact Sl.kept (Sl.kept HX.out.sl HGA.out (Nat.le_refl _) fun _ _ h => h) h1 h0 fun b hb h => by
                have h2 := HB.out
                have h3 := h.1
                omega
            go_cut [9, 10] from 48 to 132 (fun s9 s10 wx => PCut B m gb wa s9 s10 wx)
            case first =>
              rcases (show (K = 0 ∨ K = 1) ∨ K = 2 ∨ K = 3 ∨ K = 4 ∨ K = 5 ∨ (K = 6 ∨ K = 7) ∨ K = 8 ∨ K = 9 by omega) with h | rfl | rfl | rfl | rfl | h | rfl | rfl
              · rcases h with rfl | rfl
                all_goals
                  have CP := Lib.hid (HTD.out.pair HXN.out (fun G h hn => take_any h x.p) (fun w1 H hk h hn => ArRefT.rtake_any h x.p))
                  have u1 := up_cell (F := XB B gb) (w := wa.drew) (p := ⟨gb, 1, none⟩) o1 HNX.out
                  clear o1 o2 o3 o4 hK0 hK10
                  go_upto_region 19 with (fail)
                  refine wp_region_stages (Kept (XB B gb)) (kept_refl _) (kept_trans _) [([0, 1, 2, 4, 5, 6], 3), ([], 7)] [8, 9] (by kernel_rfl) (by kernel_rfl) ?_
                  simp only [selSt, sel, List.map_cons, List.map_nil, List.getD_cons_succ, List.getD_cons_zero]
                  refine st_cons fun K1 hK1 => ?_
                  repeat (go_big_quiet_step (fail))
                  refine wpQuiet_nil ?_
                  clear u1
                  go_wp2_with (go_at_call 11; (with_reducible refine CP.out.mono ?_); rintro e w4 ⟨rfl, hk, hc⟩; have HK4 := Lib.hid hk; have HC4 := Lib.hid hc; clear hk hc)
                  refine norm_up (hK1 _ _ HK4.out (st_cons fun K2 hK2 => wpQuiet_nil ?_))
                  clear hK1 K1
                  go_wp2_with (go_at_call 12; (with_reducible refine HC4.out.mono ?_); rintro e w5 ⟨rfl, hk, ht⟩; have HK5 := Lib.hid hk; have HT5 := Lib.hid ht; clear hk ht)
                  refine norm_up (hK2 _ _ HK5.out (st_nil fun K4 hK4 => ?_))
                  clear hK2 K2
                  repeat (go_big_quiet_step (fail))
                  refine wpQuiet_nil (hK4 _ ?_)
                  clear hK4 K4
                  go_wp2
                  go_meet
                  exact ⟨_, _, rfl, rfl, HT5.out, ((Kept.drew' wa).trans HK4.out).trans HK5.out⟩
              · have CP := Lib.hid (HTD.out.pair HXN.out (fun G h hn => pin_any h x.n) (fun w1 H hk h hn => ArRefC.rpin_any h x.n))
                have u2 := up_cell (F := XB B gb) (w := wa.drew) (p := ⟨gb, 2, none⟩) o2 HNX.out
                clear o1 o2 o3 o4 hK0 hK10
                go_upto_region 21 with (fail)
                refine wp_region_stages (Kept (XB B gb)) (kept_refl _) (kept_trans _) [([0, 1, 2, 4, 5, 6], 3), ([], 7)] [8, 9] (by kernel_rfl) (by kernel_rfl) ?_
                simp only [selSt, sel, List.map_cons, List.map_nil, List.getD_cons_succ, List.getD_cons_zero]
                refine st_cons fun K1 hK1 => ?_
                repeat (go_big_quiet_step (fail))
                refine wpQuiet_nil ?_
                clear u2
                go_wp2_with (go_at_call 13; (with_reducible refine CP.out.mono ?_); rintro e w4 ⟨rfl, hk, hc⟩; have HK4 := Lib.hid hk; have HC4 := Lib.hid hc; clear hk hc)
                refine norm_up (hK1 _ _ HK4.out (st_cons fun K2 hK2 => wpQuiet_nil ?_))
                clear hK1 K1
                go_wp2_with (go_at_call 14; (with_reducible refine HC4.out.mono ?_); rintro e w5 ⟨rfl, hk, ht⟩; have HK5 := Lib.hid hk; have HT5 := Lib.hid ht; clear hk ht)
                refine norm_up (hK2 _ _ HK5.out (st_nil fun K4 hK4 => ?_))
                clear hK2 K2
                repeat (go_big_quiet_step (fail))
                refine wpQuiet_nil (hK4 _ ?_)
                clear hK4 K4
                go_wp2
                go_meet
                exact ⟨_, _, rfl, rfl, HT5.out, ((Kept.drew' wa).trans HK4.out).trans HK5.out⟩
              · have CP := Lib.hid (HTD.out.pair HXN.out (fun G h hn => unpin_any h x.n) (fun w1 H hk h hn => ArRefC.runpin_any h x.n))
                have u2 := up_cell (F := XB B gb) (w := wa.drew) (p := ⟨gb, 2, none⟩) o2 HNX.out
                clear o1 o2 o3 o4 hK0 hK10
                go_upto_region 23 with (fail)
                refine wp_region_stages (Kept (XB B gb)) (kept_refl _) (kept_trans _) [([0, 1, 2, 4, 5, 6], 3), ([], 7)] [8, 9] (by kernel_rfl) (by kernel_rfl) ?_
                simp only [selSt, sel, List.map_cons, List.map_nil, List.getD_cons_succ, List.getD_cons_zero]
                refine st_cons fun K1 hK1 => ?_
                repeat (go_big_quiet_step (fail))
                refine wpQuiet_nil ?_
                clear u2
                go_wp2_with (go_at_call 15; (with_reducible refine CP.out.mono ?_); rintro e w4 ⟨rfl, hk, hc⟩; have HK4 := Lib.hid hk; have HC4 := Lib.hid hc; clear hk hc)
                refine norm_up (hK1 _ _ HK4.out (st_cons fun K2 hK2 => wpQuiet_nil ?_))
                clear hK1 K1
                go_wp2_with (go_at_call 16; (with_reducible refine HC4.out.mono ?_); rintro e w5 ⟨rfl, hk, ht⟩; have HK5 := Lib.hid hk; have HT5 := Lib.hid ht; clear hk ht)
                refine norm_up (hK2 _ _ HK5.out (st_nil fun K4 hK4 => ?_))
                clear hK2 K2
                repeat (go_big_quiet_step (fail))
                refine wpQuiet_nil (hK4 _ ?_)
                clear hK4 K4
                go_wp2
                go_meet
                exact ⟨_, _, rfl, rfl, HT5.out, ((Kept.drew' wa).trans HK4.out).trans HK5.out⟩
              · have CP := Lib.hid (HTD.out.pair HXN.out (fun G h hn => mark_any h x.n x.c) (fun w1 H hk h hn => ArRefC.rmark_any h x.n x.c))
                have u2 := up_cell (F := XB B gb) (w := wa.drew) (p := ⟨gb, 2, none⟩) o2 HNX.out
                have u3 := up_cell (F := XB B gb) (w := wa.drew) (p := ⟨gb, 3, none⟩) o3 HNX.out
                clear o1 o2 o3 o4 hK0 hK10
                go_upto_region 25 with (fail)
                refine wp_region_stages (Kept (XB B gb)) (kept_refl _) (kept_trans _) [([0, 1, 2, 3, 4, 6, 7, 8, 9, 10], 5), ([], 11)] [12, 13] (by kernel_rfl) (by kernel_rfl) ?_
                simp only [selSt, sel, List.map_cons, List.map_nil, List.getD_cons_succ, List.getD_cons_zero]
                refine st_cons fun K1 hK1 => ?_
                repeat (go_big_quiet_step (fail))
                refine wpQuiet_nil ?_
                clear u2 u3
                go_wp2_with (go_at_call 17; (with_reducible refine CP.out.mono ?_); rintro e w4 ⟨rfl, hk, hc⟩; have HK4 := Lib.hid hk; have HC4 := Lib.hid hc; clear hk hc)
                refine norm_up (hK1 _ _ HK4.out (st_cons fun K2 hK2 => wpQuiet_nil ?_))
                clear hK1 K1
                go_wp2_with (go_at_call 18; (with_reducible refine HC4.out.mono ?_); rintro e w5 ⟨rfl, hk, ht⟩; have HK5 := Lib.hid hk; have HT5 := Lib.hid ht; clear hk ht)
                refine norm_up (hK2 _ _ HK5.out (st_nil fun K4 hK4 => ?_))
                clear hK2 K2
                repeat (go_big_quiet_step (fail))
                refine wpQuiet_nil (hK4 _ ?_)
                clear hK4 K4
                go_wp2
                go_meet
                exact ⟨_, _, rfl, rfl, HT5.out, ((Kept.drew' wa).trans HK4.out).trans HK5.out⟩
              · have CP := Lib.hid (HTD.out.pair HXN.out (fun G h hn => set_any h x.n x.p x.A x.len x.cap w.heap.size x.zs (HSL.out _ (kept_refl _ _)) (by have := h30z; omega)) (fun w1 H hk h hn => ArRefT.rset_any h x.n x.p x.zs (by have := HX.out.sl.1; have := h30z; omega)))
                have u1 := up_cell (F := XB B gb) (w := wa.drew) (p := ⟨gb, 1, none⟩) o1 HNX.out
                have u2 := up_cell (F := XB B gb) (w := wa.drew) (p := ⟨gb, 2, none⟩) o2 HNX.out
                have u4 := up_cell (F := XB B gb) (w := wa.drew) (p := ⟨gb, 4, none⟩) o4 HNX.out
                have s4 := up_run (F := XB B gb) (P := Try.prog) (w := wa.drew) fun w' hk => (HSL.out w' hk).str 28 9 5 Try.underlying28 Try.underlying5 Try.underlying9 x.cap
                clear o1 o2 o3 o4 hK0 hK10
                go_upto_region 27 with (fail)
                refine wp_region_stages (Kept (XB B gb)) (kept_refl _) (kept_trans _) [([0, 1, 2, 3, 4, 5, 6, 8, 9, 10, 11, 12, 13, 14, 15], 7), ([], 16)] [17, 18] (by kernel_rfl) (by kernel_rfl) ?_
                simp only [selSt, sel, List.map_cons, List.map_nil, List.getD_cons_succ, List.getD_cons_zero]
                refine st_cons fun K1 hK1 => ?_
                repeat (go_big_quiet_step (fail))
                refine wpQuiet_nil ?_
                clear u1 u2 u4 s4
                go_wp2_with (go_at_call 19; (with_reducible refine CP.out.mono ?_); rintro e w4 ⟨rfl, hk, hc⟩; have HK4 := Lib.hid hk; have HC4 := Lib.hid hc; clear hk hc)
                refine norm_up (hK1 _ _ HK4.out (st_cons fun K2 hK2 => wpQuiet_nil ?_))
                clear hK1 K1
                go_wp2_with (go_at_call 20; (with_reducible refine HC4.out.mono ?_); rintro e w5 ⟨rfl, hk, ht⟩; have HK5 := Lib.hid hk; have HT5 := Lib.hid ht; clear hk ht)
                refine norm_up (hK2 _ _ HK5.out (st_nil fun K4 hK4 => ?_))
                clear hK2 K2
                repeat (go_big_quiet_step (fail))
                refine wpQuiet_nil (hK4 _ ?_)
                clear hK4 K4
                go_wp2
                go_meet
                exact ⟨_, _, rfl, rfl, HT5.out, ((Kept.drew' wa).trans HK4.out).trans HK5.out⟩
              · rcases h with rfl | rfl
                all_goals
                  have CP := Lib.hid (HTD.out.pair HXN.out (fun G h hn => drop_any h x.n) (fun w1 H hk h hn => ArRefA.rdrop_any h hn x.n))
                  have u2 := up_cell (F := XB B gb) (w := wa.drew) (p := ⟨gb, 2, none⟩) o2 HNX.out
                  clear o1 o2 o3 o4 hK0 hK10
                  go_upto_region 30 with (fail)
                  refine wp_region_stages (Kept (XB B gb)) (kept_refl _) (kept_trans _) [([0, 1, 2, 4, 5, 6], 3), ([], 7)] [8, 9] (by kernel_rfl) (by kernel_rfl) ?_
                  simp only [selSt, sel, List.map_cons, List.map_nil, List.getD_cons_succ, List.getD_cons_zero]
                  refine st_cons fun K1 hK1 => ?_
                  repeat (go_big_quiet_step (fail))
                  refine wpQuiet_nil ?_
                  clear u2
                  go_wp2_with (go_at_call 21; (with_reducible refine CP.out.mono ?_); rintro e w4 ⟨rfl, hk, hc⟩; have HK4 := Lib.hid hk; have HC4 := Lib.hid hc; clear hk hc)
                  refine norm_up (hK1 _ _ HK4.out (st_cons fun K2 hK2 => wpQuiet_nil ?_))
                  clear hK1 K1
                  go_wp2_with (go_at_call 22; (with_reducible refine HC4.out.mono ?_); rintro e w5 ⟨rfl, hk, ht⟩; have HK5 := Lib.hid hk; have HT5 := Lib.hid ht; clear hk ht)
                  refine norm_up (hK2 _ _ HK5.out (st_nil fun K4 hK4 => ?_))
                  clear hK2 K2
                  repeat (go_big_quiet_step (fail))
                  refine wpQuiet_nil (hK4 _ ?_)
                  clear hK4 K4
                  go_wp2
                  go_meet
                  exact ⟨_, _, rfl, rfl, HT5.out, ((Kept.drew' wa).trans HK4.out).trans HK5.out⟩
              · have CP := Lib.hid (HTA.out.pair HXW.out (fun G h hn => add_any h hn) (fun w1 H hk h hn => ArRefN.radd_any h hn))
                clear o1 o2 o3 o4 hK0 hK10
                go_wp2_with (first
                  | (go_at_call 23; (with_reducible refine CP.out.mono ?_); rintro e w4 ⟨rfl, hk, hc⟩; have HK4 := Lib.hid hk; have HC4 := Lib.hid hc; clear hk hc)
                  | (go_at_call 24; (with_reducible refine HC4.out.mono ?_); rintro e w5 ⟨rfl, hk, ht⟩; have HK5 := Lib.hid hk; have HT5 := Lib.hid ht; clear hk ht))
                go_meet
                exact ⟨_, _, rfl, rfl, HT5.out, HK4.out.trans HK5.out⟩
              · have CP := Lib.hid (HTA.out.pair HXW.out (fun G h hn => retire_any h) (fun w1 H hk h hn => ArRefC.rretire_any h))
                clear o1 o2 o3 o4 hK0 hK10
                go_wp2_with (first
                  | (go_at_call 25; (with_reducible refine CP.out.mono ?_); rintro e w4 ⟨rfl, hk, hc⟩; have HK4 := Lib.hid hk; have HC4 := Lib.hid hc; clear hk hc)
                  | (go_at_call 26; (with_reducible refine HC4.out.mono ?_); rintro e w5 ⟨rfl, hk, ht⟩; have HK5 := Lib.hid hk; have HT5 := Lib.hid ht; clear hk ht))
                go_meet
                exact ⟨_, _, rfl, rfl, HT5.out, HK4.out.trans HK5.out⟩
            case rest =>
              obtain ⟨z, a2, rfl, rfl, htw, hkx⟩ := hcut
              have HT1 := Lib.hid htw
              have HK1 := Lib.hid hkx
              have HG1 : Hid (Grow w wc) := HGA.out.then HK1.out fun k hk h => by
                have h1 := HB.out
                have h2 := h.1
                omega
              have HO2 := Lib.hid (HK1.out.cellN HO1.out HNX.out)
              clear htw hkx o1 o2 o3 o4 hK0 hK10 HTA HTD HXN HXW HSL
              have CF := Lib.hid ((HT1.out.grow (Kept.drew' wc)).finds x.p)
              have hjz : (j : Int) < (len1 : Int) := by have := HJ.out; omega
              have hzz : (z != z) = false := by simp
              generalize hfz : a2.find x.p = fz at CF
              clear hfz
              have hff : (fz != fz) = false := by simp
              have u1 := up_cell (F := fun _ => False) (w := wc.drew) HO2.out id
              go_upto_region 33 with (fail)
              refine wp_region_stages Grow (kept_refl _) (kept_trans _) [([0, 1, 2, 3, 4, 5, 6, 8, 9, 10], 7), ([], 11), ([12, 13, 14, 15, 16], 17)] [18, 19] (by kernel_rfl) (by kernel_rfl) ?_
              simp only [selSt, sel, List.map_cons, List.map_nil, List.getD_cons_succ, List.getD_cons_zero]
              refine st_cons fun K1 hK1 => ?_
              repeat (go_big_quiet_step (fail))
              refine wpQuiet_nil ?_
              clear u1
              go_wp2_with (go_at_call 27; (with_reducible refine CF.out.1.mono ?_); rintro e v1 ⟨rfl, rfl⟩)
              refine norm_up (hK1 _ _ (kept_refl _ _) (st_cons fun K2 hK2 => wpQuiet_nil ?_))
              clear hK1 K1
              go_wp2_with (go_at_call 28; (with_reducible refine CF.out.2.mono ?_); rintro e v2 ⟨rfl, rfl⟩)
              refine norm_up (hK2 _ _ (kept_refl _ _) (st_cons fun K3 hK3 => ?_))
              clear hK2 K2
              repeat (go_big_quiet_step (fail))
              refine wpQuiet_nil ?_
              go_wp2_with (go_at_call 29; (with_reducible refine (HT1.out.grow (Kept.drew' wc)).same.mono ?_); rintro e v3 ⟨rfl, hgr⟩; have HV3 := Lib.hid hgr; clear hgr)
              refine norm_up (hK3 _ _ HV3.out (st_nil fun K4 hK4 => ?_))
              clear hK3 K3
              repeat (go_big_quiet_step (fail))
              refine wpQuiet_nil (hK4 _ ?_)
              clear hK4 K4
              have HV : Hid (Grow wc v3) := (Kept.drew' wc).trans HV3.out
              go_wp2
              go_roundg (len1 - (j + 1))
              case measure => have := HG.out; have := HJ.out; omega
              case rel => exact ⟨j + 1, by have := HG.out; have := HJ.out; omega, by go_num, a2, (HT1.out.mono fun k _ h => h.1).grow HV.out, HG1.out.trans HV.out⟩
        · obtain rfl : j = len1 := by have := HG.out; omega
          clear hj HOPS
          go_wp2_with (go_at_call 10; (with_reducible refine (told_any _).mono ?_); rintro e w3 ⟨rfl, hge⟩; have HGE := Lib.hid hge; clear hge)
          go_ret
          exact ⟨rfl, Grow.below (HGR.out.trans HGE.out)⟩
  · have CN := Lib.hid fun (wx : World) => new_bad (w := wx) a0 hpg
    have CR := Lib.hid fun (wx : World) => ArRefN.rnew_bad (w := wx) a0 hpg
    clear hpg
    go_enter Try.func3, Try.ntmps3
    go_wp2_with (first
      | (go_at_call 8; (with_reducible refine (CN.out _).mono ?_); rintro e w' ⟨rfl, rfl⟩)
      | (go_at_call 9; (with_reducible refine (CR.out _).mono ?_); rintro e w' ⟨rfl, rfl⟩)
      | (go_at_call 10; (with_reducible refine (told_any _).mono ?_); rintro e w3 ⟨rfl, hge⟩; have HGE := Lib.hid hge; clear hge))
    go_ret
    exact ⟨rfl, Grow.below HGE.out⟩

/-! ### THE ROW's STEP: WRITTEN OUT: LEAVE IT -/
set_option maxRecDepth 100000 in
theorem lifted (os : Os) (started : os.Started) (H : Type) (enc : TypeId × Value → H) :
    ReturnsInHanded {} Try.checked os 3 .any (Rows.arenaPlaysSpec.pre6 enc Try.prog Try.f3 Rows.arenaPlaysRow.domain false) (Rows.arenaPlaysSpec.post enc Try.prog Try.f3 false true false false) := by
  refine returnsInHanded_of_change (C := Try.checked) own started (by kernel_rfl) Try.func3
    (ChangeSpec.witness6 (enc := enc) (C := Try.checked) false ⟨#[], #[.int .i64 0, .slice none 0 0], []⟩ 8 (by kernel_rfl) (by kernel_rfl) (by kernel_rfl) (by kernel_rfl)) ?_
  intro W base args ds gs before hval0 hW hcnd _
  have hval : ∀ (j : Nat) t v, Try.f3.params[j]? = some t → args[j]? = some v → Value.okWide Try.prog W .any base t v := hval0
  have hW' := hW
  obtain ⟨p, q, hA0, hV, rfl, hfz, hnd⟩ := hW
  have hA : DataW.TrodAll enc Try.prog W 0 (fun _ => true) true Try.f3.params.toList args.toList ds p := hA0
  rw [Try.params3] at hA hval
  obtain ⟨v0, vs0, d0, ds0, p0, q0, hargs, rfl, rfl, h0, r0⟩ := trodAll_cons hA
  obtain ⟨v1, vs1, d1, ds1, p1, q1, rfl, rfl, rfl, h1, r1⟩ := trodAll_cons r0
  obtain ⟨rfl, rfl, rfl⟩ := trodAll_nil r1
  obtain rfl : args = #[v0, v1] := by cases args; simp_all
  obtain ⟨rfl, rfl⟩ := trodVars_none hV
  obtain ⟨a0, rfl, rfl, rfl, w0⟩ := open_int Try.underlying3 (hval 0 3 v0 rfl rfl) h0
  obtain ⟨a1, len1, cap1, rfl⟩ := okWide_slice Try.underlying22 (hval 1 22 v1 rfl rfl)
  have k1 := h1
  have lt1 : ∀ x ∈ p1, x.block < W.heap.size := by obtain ⟨m, hm⟩ := k1; exact DataW.trod_lt m _ _ _ hm
  have w1 : OpsAt W a1 len1 cap1 := by obtain ⟨fuel, hf⟩ := h1; exact ops_open hf
  clear hA0 hval0
  refine (walk a0 a1 len1 cap1 W w0 w1).mono fun e W' ⟨he, bel⟩ => ?_
  subst he
  exact ⟨_, rfl, _, _, _, [], _, [], hW', trodAll_mk1 (shut_bool Try.underlying4 _), (trodAll_cons_mk (shut_int Try.underlying3 w0) (trodAll_cons_mk (Below.trod laidOut (by kernel_rfl) (of_decide_eq_true (by kernel_rfl)) k1 bel lt1) trodAll_mk0)), rfl, bel.frame _, fun h => by cases h⟩

theorem over : Rows.arenaPlaysRow.holds Try.pinned (OpenSpec.ofChange Rows.arenaPlaysSpec) :=
  OpenClaim.holds_of_wide 3 Try.f3 rfl rfl rfl rfl rfl rfl rfl ⟨rfl, rfl, rfl, rfl, rfl⟩ rfl rfl rfl rfl rfl (by kernel_rfl) Try.func3 (by kernel_rfl)
    (of_decide_eq_true (by kernel_rfl)) (by unfold Func.isWrapper; first | (rw [if_pos (by decide +kernel)]; kernel_rfl) | (rw [if_neg (by decide +kernel)]; exact ⟨rfl, rfl⟩))
    (fun os started H enc _ => lifted os started H enc)

/-- ████ THE STATEMENT ████ -/
theorem proved : Rows.ArenaPlaysSaid := over
#print axioms proved
end Go.Proofs.Ytcebjeemganhdaa.arenaPlays
