/-
  For every input the call of lavabolaw5.TablePlays returns true and leaves its arguments as they were; no condition.
-/
import Derived.Test.YtnoofichbadkoaaTold5
import Derived.Test.YtnoofichbadkoaaTabSteps
import Derived.Test.YtnoofichbadkoaaTabRefMore
import Derived.Test.YtnoofichbadkoaaRows
import Derived.WalkKit
import Derived.ProofKit
import Derived.OpenShut
import Derived.ShutString
import Derived.ChangeOld
import Derived.Below
namespace Go.Proofs.Ytnoofichbadkoaa.tablePlays
open Go.ChangeShapes Go.WideShapes Go.ChangeAt Go.RowKit
open Go.ChangeMaps (open_string shut_string)
open Go.Proofs.Ytnoofichbadkoaa.Mem Go.Proofs.Ytnoofichbadkoaa.Blk Go.Proofs.Ytnoofichbadkoaa.Cells Go.Proofs.Ytnoofichbadkoaa.TabM Go.Proofs.Ytnoofichbadkoaa.TabC Go.Proofs.Ytnoofichbadkoaa.TabD Go.Proofs.Ytnoofichbadkoaa.TabO Go.Proofs.Ytnoofichbadkoaa.TabR Go.Proofs.Ytnoofichbadkoaa.TabS Go.Proofs.Ytnoofichbadkoaa.Told5 Go.Proofs.Ytnoofichbadkoaa.Ops3 Go.Proofs.Ytnoofichbadkoaa.Stages
set_option linter.unusedVariables false

theorem own : ownKnob Try.prog.godebug = none := by kernel_rfl
theorem laidOut : laidOutB Try.prog = true := by kernel_rfl

/-- WHAT THE WALK IS TOLD OF A SLICE OF INTEGERS THAT CAME IN: it is nil; or it leads to a row of 'cap' cells, the numbers 'zs' (the first 'len' are its elements, the rest its spare room), each fitting its kind. -/
def IsRow (k : IntKind) (w : World) (a : Option Addr) (len cap : Nat) (zs : List Int) : Prop :=
  (a = none ∧ len = 0 ∧ cap = 0 ∧ zs = []) ∨
  ∃ x, a = some x ∧ len ≤ cap ∧ cap ≤ maxLen ∧ zs.length = cap ∧ (∀ i, i < zs.length → w.cell? (x.add i) = some (.int k (zs.getD i 0))) ∧ ∀ n ∈ zs, (Lit.int k n).wf = true

theorem kind6 (a : Int) : ∃ (m K : Int), a.tmod 6 = m ∧ -6 < m ∧ m < 6 ∧ (m + 6).tmod 6 = K ∧ 0 ≤ K ∧ K < 6 := by
  have key : ∀ b : Int, 0 ≤ b → 0 ≤ b.tmod 6 ∧ b.tmod 6 < 6 := fun b hb => by
    rw [IntWalk.rem_in _ _ hb]
    omega
  have hb : -6 < a.tmod 6 ∧ a.tmod 6 < 6 := by
    by_cases h : 0 ≤ a
    · have := key a h
      omega
    · have := key (-a) (by omega)
      rw [Int.neg_tmod] at this
      omega
  obtain ⟨h0, h8⟩ := key (a.tmod 6 + 6) (by omega)
  exact ⟨_, _, rfl, hb.1, hb.2, rfl, h0, h8⟩
/-- The blocks of both tables. -/
def All (d D m E k : Nat) : Prop := Own d D k ∨ Own m E k
/-- Both tables: the same slots. -/
structure Two (w2 : World) (d D m E cap N : Nat) (T : Tb) (wx : World) : Prop where
  t : TabAt wx d D T
  r : RefAt wx m E cap T
  n : T.n = N
  k : Kept (All d D m E) w2 wx
  ne : ∀ k, Own d D k → ¬ Own m E k
section
variable {w2 wx wy wz : World} {d D m E cap N : Nat} {T U : Tb}
theorem Two.grow (h : Two w2 d D m E cap N T wx) (hg : Grow wx wy) : Two w2 d D m E cap N T wy := ⟨TabAt.grow h.t hg, h.r.grow hg, h.n, h.k.trans (Grow.kept hg), h.ne⟩
/-- A step of both. -/
theorem Two.step (h : Two w2 d D m E cap N T wx) (h1 : TabAt wy d D U) (hk1 : Kept (Own d D) wx wy) (h2 : RefAt wz m E cap U) (hk2 : Kept (Own m E) wy wz) (hn : U.n = N) : Two w2 d D m E cap N U wz :=
  ⟨TabAt.kept h1 hk2 fun k x y => h.ne k y x, h2, hn, (h.k.trans (hk1.mono fun _ _ x => .inl x)).trans (hk2.mono fun _ _ x => .inr x), h.ne⟩
theorem Two.other (h : Two w2 d D m E cap N T wx) (hk : Kept (Own d D) wx wy) : RefAt wy m E cap T := h.r.kept hk h.ne
end
def PInv (w2 : World) (d D m E cap N : Nat) (wx : World) : Prop := ∃ T, Two w2 d D m E cap N T wx
def PLoop (w2 : World) (d D m E cap N M g : Nat) (i : Value) (wx : World) : Prop := ∃ j : Nat, j + g = M ∧ i = .int .i64 (j : Int) ∧ PInv w2 d D m E cap N wx

/-! ### STEP 1: THE WALK: the Go text returns true, AND WRITES NOTHING THAT WAS THERE: 'Below w.heap.size w w'' (Derived/Below.lean: '.refl', '.alloc', '.drew', '.setCell' at a new block, '.trans'). Open each 'IsRow' by 'rcases' AHEAD of 'go_enter'; part every test ahead of the walk. -/
set_option maxHeartbeats 8000000 in
set_option maxRecDepth 100000 in
theorem walk (a0 : Int) (a1 : Option Addr) (len1 cap1 : Nat) (w : World) (w0 : (Lit.int .i64 a0).wf = true) (w1 : OpsAt w a1 len1 cap1) :
    Calls Try.prog 4 #[.int .i64 a0, .slice a1 len1 cap1] w fun e w' => e = .returned (.bool true) ∧ Below w.heap.size w w' := by
  have k0 := bounds_i64 w0
  obtain ⟨hlc, hcm, hops⟩ := w1
  unfold maxLen at hcm
  have HOPS := Lib.hid hops
  clear hops
  by_cases hpg : 1 ≤ a0 ∧ a0 ≤ 1024
  · obtain ⟨hp1, hp2⟩ := hpg
    go_enter Try.func4, Try.ntmps4
    go_upto_region 1 with (fail)
    go_cut [16] (fun s wx => s = .bool (decide (40 < a0)) ∧ w = wx)
    case first =>
      by_cases h40 : a0 ≤ 40
      · have e : decide (40 < a0) = false := decide_eq_false (by omega)
        go_wp2_with (fail)
        go_meet
        exact ⟨by rw [e], rfl⟩
      · have h41 : 40 < a0 := by omega
        have e : decide (40 < a0) = true := decide_eq_true h41
        clear h40
        go_wp2_with (fail)
        go_meet
        exact ⟨by rw [e], rfl⟩
    case rest =>
      obtain ⟨rfl, rfl⟩ := hcut
      go_upto_if 16 with (fail)
      go_cut [0] (fun s wx => ∃ N : Nat, (1 ≤ N ∧ N ≤ 40) ∧ s = .int .i64 (N : Int) ∧ w = wx)
      case first =>
        by_cases h40 : a0 ≤ 40
        · have e : decide (40 < a0) = false := decide_eq_false (by omega)
          obtain ⟨N, rfl⟩ := Int.eq_ofNat_of_zero_le (show 0 ≤ a0 by omega)
          have HN : Hid (1 ≤ N ∧ N ≤ 40) := ⟨by omega, by omega⟩
          go_wp2_with (fail)
          go_meet
          exact ⟨N, HN.out, rfl, rfl⟩
        · have h41 : 40 < a0 := by omega
          obtain ⟨N, hN⟩ := Int.eq_ofNat_of_zero_le (show 0 ≤ 1 + a0 % 40 by omega)
          have HN : Hid (1 ≤ N ∧ N ≤ 40) := ⟨by omega, by omega⟩
          have HE := Lib.hid hN
          clear hN h40
          go_wp2_with (fail)
          go_meet
          exact ⟨N, HN.out, by rw [HE.out], rfl⟩
      case rest =>
        obtain ⟨N, ⟨hN1, hN2⟩, rfl, rfl⟩ := hcut
        have hNz1 : 1 ≤ (N : Int) := by omega
        have hNz : (N : Int) ≤ 40 := by omega
        clear k0 hp1 hp2
        have CN : Hid (∀ wx : World, Calls Try.prog 9 #[.int .i64 (N : Int)] wx (NewPost N wx)) := fun wx => new_good N (by omega) (by omega)
        have CR : Hid (∀ wx : World, Calls Try.prog 15 #[.int .i64 (N : Int)] wx (RNewPost N wx)) := fun wx => rnew_good N (by omega) (by omega)
        by_cases h150 : 150 < len1
        · have h150z : (150 : Int) < (len1 : Int) := by omega
          go_wp2_with (first
            | (go_at_call 9; (with_reducible refine (CN.out _).mono ?_); rintro e w1 ⟨d, D, rfl, hl, hd1, hd2, hg⟩; have H0 := Lib.hid hl; have HD := Lib.hid (And.intro hd1 hd2); have G0 := Lib.hid hg; clear hl hd1 hd2 hg)
            | (go_at_call 15; (with_reducible refine (CR.out _).mono ?_); rintro e w2 ⟨m, E, cap, rfl, hl, hd1, hd2, hg⟩; have H1 := Lib.hid hl; have HD2 := Lib.hid (And.intro hd1 hd2); have G1 := Lib.hid hg; clear hl hd1 hd2 hg)
            | (go_at_call 12; (with_reducible refine (told_any _).mono ?_); rintro e w3 ⟨rfl, hge⟩; have HGE := Lib.hid hge; clear hge))
          go_ret
          exact ⟨rfl, Grow.below ((G0.out.trans G1.out).trans HGE.out)⟩
        · have h150z : (len1 : Int) ≤ 150 := by omega
          go_upto_block 0 with (first
            | (go_at_call 9; (with_reducible refine (CN.out _).mono ?_); rintro e w1 ⟨d, D, rfl, hl, hd1, hd2, hg⟩; have H0 := Lib.hid hl; have HD := Lib.hid (And.intro hd1 hd2); have G0 := Lib.hid hg; clear hl hd1 hd2 hg)
            | (go_at_call 15; (with_reducible refine (CR.out _).mono ?_); rintro e w2 ⟨m, E, cap, rfl, hl, hd1, hd2, hg⟩; have H1 := Lib.hid hl; have HD2 := Lib.hid (And.intro hd1 hd2); have G1 := Lib.hid hg; clear hl hd1 hd2 hg))
          have HOLDW : Hid (∀ k, k < w.heap.size → ¬ All d D m E k) := fun k hk h => by
            have h1 := HD.out.1
            have h2 := HD.out.2
            have h3 := HD2.out.1
            have h4 := HD2.out.2
            have h5 := G0.out.size
            rcases h with (h | h) | h | h <;> omega
          have HTW : Hid (Two w2 d D m E cap N (fresh N) w2) := ⟨TabAt.grow H0.out G1.out, H1.out, rfl, Kept.refl _ _, fun k x y => by
            have h1 := Raw.lt H0.out
            have h2 := HD2.out.1
            have h3 := HD2.out.2
            rcases x with x | x <;> rcases y with y | y <;> omega⟩
          have HGG : Hid (Grow w w2) := G0.out.trans G1.out
          clear H0 H1 HD HD2 G0 G1 CN CR
          go_wp2_with (fail)
          go_loopg [7] len1 (PLoop w2 d D m E cap N len1)
          case atStart => exact ⟨0, by omega, rfl, _, HTW.out⟩
          case round =>
            obtain ⟨j, hg, rfl, T, htw⟩ := hrel
            have HG := Lib.hid hg
            have HT := Lib.hid htw
            clear hg htw HTW
            by_cases hj : j < len1
            · have hjz : (j : Int) < (len1 : Int) := by omega
              obtain ⟨ab, ao, rfl, hab, hall⟩ := HOPS.out (by omega)
              obtain ⟨x, hx⟩ := hall j hj
              have hkx : ∀ o v, w.cell? ⟨ab, o, none⟩ = some v → wr.cell? ⟨ab, o, none⟩ = some v := fun o v h => HT.out.k.cellN (HGG.out.cellN h id) (HOLDW.out ab hab)
              have ck := hkx _ _ hx.k
              have cp := hkx _ _ hx.p
              have cv := hkx _ _ hx.v
              have kB := hx.kB
              have pB := hx.pB
              obtain ⟨km, K, hkm, hk1, hk2, hK, hK0, hK6⟩ := kind6 x.k
              clear hall hx hkx
              go_upto_block 2 with (fail)
              have hga : Grow wr (wr.alloc (.cells #[.int .i64 x.k, .int .i64 x.p, .int .i64 x.v] 38)) := (Kept.refl _ _).alloc _
              have hbo := Blk.new wr 38 [.int .i64 x.k, .int .i64 x.p, .int .i64 x.v]
              have HNG : Hid (¬ All d D m E wr.heap.size) := fun h => by
                have h1 := Raw.lt HT.out.t
                have h2 := HT.out.r.lt
                rcases h with (h | h) | h | h <;> omega
              have HT1 := Lib.hid (HT.out.grow hga)
              have ho0 := hbo.cell 0
              have ho1 := hbo.cell 1
              have ho2 := hbo.cell 2
              simp only [List.getElem?_cons_zero, List.getElem?_cons_succ] at ho0 ho1 ho2
              clear hga hbo ck cp cv kB pB HT
              generalize wr.alloc (.cells #[.int .i64 x.k, .int .i64 x.p, .int .i64 x.v] 38) = wo at HT1 ho0 ho1 ho2 ⊢
              generalize wr.heap.size = g at HNG ho0 ho1 ho2 ⊢
              have HO1 : Hid (wo.drew.cell? ⟨g, 1, none⟩ = some (.int .i64 x.p)) := ho1
              have HO2 : Hid (wo.drew.cell? ⟨g, 2, none⟩ = some (.int .i64 x.v)) := ho2
              have HT2 := Lib.hid (HT1.out.grow (Kept.drew' wo))
              have HJ := Lib.hid hj
              clear hK hkm hk1 hk2 ho0 ho1 ho2 hjz hj
              generalize x.p = kp at *
              generalize x.v = kv at *
              go_cut [9, 10] (fun a b wx => ∃ z, a = .int .i64 z ∧ b = .int .i64 z ∧ PInv w2 d D m E cap N wx)
              case first =>
                by_cases h012 : K ≤ 2
                · have CD := Lib.hid (put_any HT2.out.t kp kv)
                  have CR : Hid (∀ wy, Kept (Own d D) wo.drew wy → Calls Try.prog 16 #[.pointer (some ⟨m, 0, none⟩), .int .i64 kp, .int .i64 kv] wy (RefPost m E cap wy (T.putC kp) (T.put kp kv))) := fun wy hk => rput_any (HT2.out.other hk) kp kv
                  have HN : Hid ((T.put kp kv).n = N) := (put_n _).trans HT2.out.n
                  rcases (show K = 0 ∨ K = 1 ∨ K = 2 by omega) with rfl | rfl | rfl
                  all_goals
                    clear h012 hK0 hK6
                    go_upto_region 20 with (fail)
                    refine wp_region_stages (Kept (All d D m E)) (kept_refl _) (kept_trans _) [([0, 1, 2, 3, 4, 6, 7, 8, 9, 10], 5), ([], 11)] [12, 13] (by kernel_rfl) (by kernel_rfl) ?_
                    simp only [selSt, sel, List.map_cons, List.map_nil, List.getD_cons_succ, List.getD_cons_zero]
                    refine st_cons fun K1 hK1 => ?_
                    have u0 := up_cell (F := All d D m E) (w := wo.drew) (p := ⟨g, 1, none⟩) HO1.out HNG.out
                    have u1 := up_cell (F := All d D m E) (w := wo.drew) (p := ⟨g, 2, none⟩) HO2.out HNG.out
                    repeat (go_big_quiet_step (fail))
                    refine wpQuiet_nil ?_
                    clear u0 u1
                    go_wp2_with (go_at_call 10; (with_reducible refine CD.out.mono ?_); rintro e w4 ⟨rfl, hl, hk⟩; have HL4 := Lib.hid hl; have HK4 := Lib.hid hk; clear hl hk)
                    refine norm_up (hK1 _ _ (HK4.out.mono fun _ _ h => .inl h) (st_cons fun K2 hK2 => ?_))
                    clear hK1 K1
                    refine wpQuiet_nil ?_
                    go_wp2_with (go_at_call 16; (with_reducible refine (CR.out _ HK4.out).mono ?_); rintro e w5 ⟨rfl, hr, hk⟩; have HR5 := Lib.hid hr; have HK5 := Lib.hid hk; clear hr hk)
                    refine norm_up (hK2 _ _ (HK5.out.mono fun _ _ h => .inr h) (st_nil fun K3 hK3 => ?_))
                    clear hK2 K2
                    repeat (go_big_quiet_step (fail))
                    refine wpQuiet_nil (hK3 _ ?_)
                    clear hK3 K3
                    go_wp2
                    go_meet
                    exact ⟨_, rfl, rfl, _, HT2.out.step HL4.out HK4.out HR5.out HK5.out HN.out⟩
                · by_cases h34 : K ≤ 4
                  · have CD := Lib.hid (out_any HT2.out.t kp)
                    have CR : Hid (∀ wy, Kept (Own d D) wo.drew wy → Calls Try.prog 18 #[.pointer (some ⟨m, 0, none⟩), .int .i64 kp] wy (RefPost m E cap wy (T.get kp) (T.out kp))) := fun wy hk => rout_any (HT2.out.other hk) kp
                    have HN : Hid ((T.out kp).n = N) := out_n.trans HT2.out.n
                    rcases (show K = 3 ∨ K = 4 by omega) with rfl | rfl
                    all_goals
                      clear h012 h34 hK0 hK6
                      go_upto_region 23 with (fail)
                      refine wp_region_stages (Kept (All d D m E)) (kept_refl _) (kept_trans _) [([0, 1, 2, 4, 5, 6], 3), ([], 7)] [8, 9] (by kernel_rfl) (by kernel_rfl) ?_
                      simp only [selSt, sel, List.map_cons, List.map_nil, List.getD_cons_succ, List.getD_cons_zero]
                      refine st_cons fun K1 hK1 => ?_
                      have u0 := up_cell (F := All d D m E) (w := wo.drew) (p := ⟨g, 1, none⟩) HO1.out HNG.out
                      have u1 := up_cell (F := All d D m E) (w := wo.drew) (p := ⟨g, 2, none⟩) HO2.out HNG.out
                      repeat (go_big_quiet_step (fail))
                      refine wpQuiet_nil ?_
                      clear u0 u1
                      go_wp2_with (go_at_call 17; (with_reducible refine CD.out.mono ?_); rintro e w4 ⟨rfl, hl, hk⟩; have HL4 := Lib.hid hl; have HK4 := Lib.hid hk; clear hl hk)
                      refine norm_up (hK1 _ _ (HK4.out.mono fun _ _ h => .inl h) (st_cons fun K2 hK2 => ?_))
                      clear hK1 K1
                      refine wpQuiet_nil ?_
                      go_wp2_with (go_at_call 18; (with_reducible refine (CR.out _ HK4.out).mono ?_); rintro e w5 ⟨rfl, hr, hk⟩; have HR5 := Lib.hid hr; have HK5 := Lib.hid hk; clear hr hk)
                      refine norm_up (hK2 _ _ (HK5.out.mono fun _ _ h => .inr h) (st_nil fun K3 hK3 => ?_))
                      clear hK2 K2
                      repeat (go_big_quiet_step (fail))
                      refine wpQuiet_nil (hK3 _ ?_)
                      clear hK3 K3
                      go_wp2
                      go_meet
                      exact ⟨_, rfl, rfl, _, HT2.out.step HL4.out HK4.out HR5.out HK5.out HN.out⟩
                  · have CD := Lib.hid (get_any HT2.out.t kp)
                    have CR := Lib.hid (rget_any HT2.out.r kp)
                    obtain rfl : K = 5 := by omega
                    clear h012 h34 hK0 hK6
                    go_upto_region 16 with (fail)
                    refine wp_region_stages Grow (kept_refl _) (kept_trans _) [([0, 1, 2, 4, 5, 6], 3), ([], 7)] [8, 9] (by kernel_rfl) (by kernel_rfl) ?_
                    simp only [selSt, sel, List.map_cons, List.map_nil, List.getD_cons_succ, List.getD_cons_zero]
                    refine st_cons fun K1 hK1 => ?_
                    have u0 := up_cell (F := fun _ => False) (w := wo.drew) (p := ⟨g, 1, none⟩) HO1.out id
                    have u1 := up_cell (F := fun _ => False) (w := wo.drew) (p := ⟨g, 2, none⟩) HO2.out id
                    repeat (go_big_quiet_step (fail))
                    refine wpQuiet_nil ?_
                    clear u0 u1
                    go_wp2_with (go_at_call 13; (with_reducible refine CD.out.mono ?_); rintro e w' ⟨rfl, rfl⟩)
                    refine norm_up (hK1 _ _ (kept_refl _ _) (st_cons fun K2 hK2 => ?_))
                    clear hK1 K1
                    refine wpQuiet_nil ?_
                    go_wp2_with (go_at_call 19; (with_reducible refine CR.out.mono ?_); rintro e w' ⟨rfl, rfl⟩)
                    refine norm_up (hK2 _ _ (kept_refl _ _) (st_nil fun K3 hK3 => ?_))
                    clear hK2 K2
                    repeat (go_big_quiet_step (fail))
                    refine wpQuiet_nil (hK3 _ ?_)
                    clear hK3 K3
                    go_wp2
                    go_meet
                    exact ⟨_, rfl, rfl, _, HT2.out⟩
              case rest =>
                obtain ⟨z, rfl, rfl, U, htw⟩ := hcut
                have HU := Lib.hid htw
                have hzz : (z != z) = false := by simp
                have hcc : ((U.cnt : Int) != (U.cnt : Int)) = false := by simp
                have hc0 := htw.r.c0
                have hpos := htw.r.pos
                have CC : Hid (∀ wx, Grow wc wx → wx.cell? ⟨m, 0, none⟩ = some (.slice (some ⟨E, 0, none⟩) U.n cap)) := fun wx h => h.cellN hc0 id
                have CL : Hid (∀ wx, Grow wc wx → Calls Try.prog 14 #[.pointer (some ⟨d, 0, none⟩)] wx fun e w' => e = .returned (.int .i64 (U.cnt : Int)) ∧ wx = w') := fun wx h => t_len (TabAt.grow HU.out.t h) rfl
                have CLR : Hid (∀ wx, Grow wc wx → Calls Try.prog 20 #[.pointer (some ⟨m, 0, none⟩)] wx fun e w' => e = .returned (.int .i64 (U.cnt : Int)) ∧ wx = w') := fun wx h => rlen_any (HU.out.r.grow h)
                have CS : Hid (∀ wx, Grow wc wx → Calls Try.prog 11 #[.pointer (some ⟨d, 0, none⟩)] wx fun e w' => ∃ gS c, e = .returned (.slice (some ⟨gS, 0, none⟩) U.n c) ∧ Slots w' gS U ∧ Grow wx w') := fun wx h => (slots_any (TabAt.grow HU.out.t h)).mono fun e w' ⟨gS, c, h1, h2, _, _, h3⟩ => ⟨gS, c, h1, h2, h3⟩
                have CE : Hid (∀ wx gS c, Grow wc wx → Slots wx gS U → Calls Try.prog 21 #[.slice (some ⟨gS, 0, none⟩) U.n c, .slice (some ⟨E, 0, none⟩) U.n cap] wx fun e w' => e = .returned (.bool true) ∧ Grow wx w') := fun wx gS c h hs => slots_true HU.out.r.size hs (HU.out.r.grow h).sl
                have hjz : (j : Int) < (len1 : Int) := by have := HJ.out; omega
                clear htw hc0 hpos HT1 HT2 HO1 HO2 hK0 hK6
                generalize U.cnt = L at *
                go_upto_region 24 with (fail)
                refine wp_region_stages Grow (kept_refl _) (kept_trans _) [([0, 1, 2, 3, 4, 6], 5), ([], 7), ([8, 9, 10, 11, 13, 14, 15, 16], 12), ([], 17)] [18, 19] (by kernel_rfl) (by kernel_rfl) ?_
                simp only [selSt, sel, List.map_cons, List.map_nil, List.getD_cons_succ, List.getD_cons_zero]
                refine st_cons fun K1 hK1 => ?_
                repeat (go_big_quiet_step (fail))
                refine wpQuiet_nil ?_
                go_wp2_with (go_at_call 14; (with_reducible refine (CL.out _ (Kept.drew' wc)).mono ?_); rintro e w' ⟨rfl, rfl⟩)
                refine norm_up (hK1 _ _ (kept_refl _ _) (st_cons fun K2 hK2 => ?_))
                clear hK1 K1
                refine wpQuiet_nil ?_
                go_wp2_with (go_at_call 20; (with_reducible refine (CLR.out _ (Kept.drew' wc)).mono ?_); rintro e w' ⟨rfl, rfl⟩)
                refine norm_up (hK2 _ _ (kept_refl _ _) (st_cons fun K3 hK3 => ?_))
                clear hK2 K2
                have u0 := up_cell (F := fun _ => False) (w := wc.drew) (CC.out _ (Kept.drew' wc)) id
                repeat (go_big_quiet_step (fail))
                refine wpQuiet_nil ?_
                clear u0
                go_wp2_with (go_at_call 11; (with_reducible refine (CS.out _ (Kept.drew' wc)).mono ?_); rintro e w6 ⟨gS, cS, rfl, hs, hg⟩; have HS6 := Lib.hid hs; have HG6 := Lib.hid hg; clear hs hg)
                refine norm_up (hK3 _ _ HG6.out (st_cons fun K4 hK4 => ?_))
                clear hK3 K3
                have HW6 : Hid (Grow wc w6) := (Kept.drew' wc).trans HG6.out
                refine wpQuiet_nil ?_
                go_wp2_with (go_at_call 21; (with_reducible refine (CE.out _ _ _ HW6.out HS6.out).mono ?_); rintro e w7 ⟨rfl, hg⟩; have HG7 := Lib.hid hg; clear hg)
                refine norm_up (hK4 _ _ HG7.out (st_nil fun K5 hK5 => ?_))
                clear hK4 K4
                repeat (go_big_quiet_step (fail))
                refine wpQuiet_nil (hK5 _ ?_)
                clear hK5 K5
                go_wp2
                go_roundg (len1 - (j + 1))
                case measure => have := HG.out; have := HJ.out; omega
                case rel => exact ⟨j + 1, by have := HG.out; have := HJ.out; omega, by go_num, U, HU.out.grow (HW6.out.trans HG7.out)⟩
            · obtain rfl : j = len1 := by have := HG.out; omega
              have HFIN : Hid (Below w.heap.size w wr) := Kept.below ((Grow.kept HGG.out).trans HT.out.k) (fun k h => Nat.le_of_not_lt fun hk => HOLDW.out k hk h) (Nat.le_refl _)
              clear hj HOPS
              go_wp2_with (go_at_call 12; (with_reducible refine (told_any _).mono ?_); rintro e w3 ⟨rfl, hge⟩; have HGE := Lib.hid hge; clear hge)
              go_ret
              exact ⟨rfl, HFIN.out.trans (HGE.out.below.mono HFIN.out.size)⟩
  · go_enter Try.func4, Try.ntmps4
    have CN := Lib.hid fun (wx : World) => new_bad (w := wx) a0 hpg
    have CR := Lib.hid fun (wx : World) => rnew_bad (w := wx) a0 hpg
    by_cases h0 : a0 < 1
    · clear hpg
      go_wp2_with (first
        | (go_at_call 9; (with_reducible refine (CN.out _).mono ?_); rintro e w' ⟨rfl, rfl⟩)
        | (go_at_call 15; (with_reducible refine (CR.out _).mono ?_); rintro e w' ⟨rfl, rfl⟩)
        | (go_at_call 12; (with_reducible refine (told_any _).mono ?_); rintro e w3 ⟨rfl, hge⟩; have HGE := Lib.hid hge; clear hge))
      go_ret
      exact ⟨rfl, Grow.below HGE.out⟩
    · have h1 : 1024 < a0 := by omega
      clear hpg
      go_wp2_with (first
        | (go_at_call 9; (with_reducible refine (CN.out _).mono ?_); rintro e w' ⟨rfl, rfl⟩)
        | (go_at_call 15; (with_reducible refine (CR.out _).mono ?_); rintro e w' ⟨rfl, rfl⟩)
        | (go_at_call 12; (with_reducible refine (told_any _).mono ?_); rintro e w3 ⟨rfl, hge⟩; have HGE := Lib.hid hge; clear hge))
      go_ret
      exact ⟨rfl, Grow.below HGE.out⟩

/-! ### THE ROW's STEP: WRITTEN OUT: LEAVE IT -/
set_option maxRecDepth 100000 in
theorem lifted (os : Os) (started : os.Started) (H : Type) (enc : TypeId × Value → H) :
    ReturnsInHanded {} Try.checked os 4 .any (Rows.tablePlaysSpec.pre6 enc Try.prog Try.f4 Rows.tablePlaysRow.domain false) (Rows.tablePlaysSpec.post enc Try.prog Try.f4 false true false false) := by
  refine returnsInHanded_of_change (C := Try.checked) own started (by kernel_rfl) Try.func4
    (ChangeSpec.witness6 (enc := enc) (C := Try.checked) false ⟨#[], #[.int .i64 0, .slice none 0 0], []⟩ 8 (by kernel_rfl) (by kernel_rfl) (by kernel_rfl) (by kernel_rfl)) ?_
  intro W base args ds gs before hval0 hW hcnd _
  have hval : ∀ (j : Nat) t v, Try.f4.params[j]? = some t → args[j]? = some v → Value.okWide Try.prog W .any base t v := hval0
  have hW' := hW
  obtain ⟨p, q, hA0, hV, rfl, hfz, hnd⟩ := hW
  have hA : DataW.TrodAll enc Try.prog W 0 (fun _ => true) true Try.f4.params.toList args.toList ds p := hA0
  rw [Try.params4] at hA hval
  obtain ⟨v0, vs0, d0, ds0, p0, q0, hargs, rfl, rfl, h0, r0⟩ := trodAll_cons hA
  obtain ⟨v1, vs1, d1, ds1, p1, q1, rfl, rfl, rfl, h1, r1⟩ := trodAll_cons r0
  obtain ⟨rfl, rfl, rfl⟩ := trodAll_nil r1
  obtain rfl : args = #[v0, v1] := by cases args; simp_all
  obtain ⟨rfl, rfl⟩ := trodVars_none hV
  obtain ⟨a0, rfl, rfl, rfl, w0⟩ := open_int Try.underlying3 (hval 0 3 v0 rfl rfl) h0
  obtain ⟨a1, len1, cap1, rfl⟩ := okWide_slice Try.underlying34 (hval 1 34 v1 rfl rfl)
  have k1 := h1
  have lt1 : ∀ x ∈ p1, x.block < W.heap.size := by obtain ⟨m, hm⟩ := k1; exact DataW.trod_lt m _ _ _ hm
  have w1 : OpsAt W a1 len1 cap1 := by obtain ⟨fuel, hf⟩ := h1; exact ops_open hf
  clear hA0 hval0
  refine (walk a0 a1 len1 cap1 W w0 w1).mono fun e W' ⟨he, bel⟩ => ?_
  subst he
  exact ⟨_, rfl, _, _, _, [], _, [], hW', trodAll_mk1 (shut_bool Try.underlying4 _), (trodAll_cons_mk (shut_int Try.underlying3 w0) (trodAll_cons_mk (Below.trod laidOut (by kernel_rfl) (of_decide_eq_true (by kernel_rfl)) k1 bel lt1) trodAll_mk0)), rfl, bel.frame _, fun h => by cases h⟩

theorem over : Rows.tablePlaysRow.holds Try.pinned (OpenSpec.ofChange Rows.tablePlaysSpec) :=
  OpenClaim.holds_of_wide 4 Try.f4 rfl rfl rfl rfl rfl rfl rfl ⟨rfl, rfl, rfl, rfl, rfl⟩ rfl rfl rfl rfl rfl (by kernel_rfl) Try.func4 (by kernel_rfl)
    (of_decide_eq_true (by kernel_rfl)) (by unfold Func.isWrapper; first | (rw [if_pos (by decide +kernel)]; kernel_rfl) | (rw [if_neg (by decide +kernel)]; exact ⟨rfl, rfl⟩))
    (fun os started H enc _ => lifted os started H enc)

/-- ████ THE STATEMENT ████ -/
theorem proved : Rows.TablePlaysSaid := over
#print axioms proved
end Go.Proofs.Ytnoofichbadkoaa.tablePlays
