/-
  For every input the call of lavabolaw7.SchedPlays returns true and leaves its arguments as they were; no condition.
-/
import Derived.Test.YtboglnaagigcmaaTold7
import Derived.Test.YtboglnaagigcmaaSchSteps
import Derived.Test.YtboglnaagigcmaaInts
import Derived.Test.YtboglnaagigcmaaSchRefFree
import Derived.Test.YtboglnaagigcmaaRows
import Derived.WalkKit
import Derived.ProofKit
import Derived.OpenShut
import Derived.ShutString
import Derived.ChangeOld
import Derived.Below
namespace Go.Proofs.Ytboglnaagigcmaa.schedPlays
open Go.ChangeShapes Go.WideShapes Go.ChangeAt Go.RowKit
open Go.ChangeMaps (open_string shut_string)
open Go.Proofs.Ytboglnaagigcmaa.Mem Go.Proofs.Ytboglnaagigcmaa.Blk Go.Proofs.Ytboglnaagigcmaa.Cells Go.Proofs.Ytboglnaagigcmaa.SchM Go.Proofs.Ytboglnaagigcmaa.SchC Go.Proofs.Ytboglnaagigcmaa.SchD Go.Proofs.Ytboglnaagigcmaa.SchE Go.Proofs.Ytboglnaagigcmaa.SchR Go.Proofs.Ytboglnaagigcmaa.SchS Go.Proofs.Ytboglnaagigcmaa.SchT Go.Proofs.Ytboglnaagigcmaa.Told7 Go.Proofs.Ytboglnaagigcmaa.Ops3 Go.Proofs.Ytboglnaagigcmaa.IntsC Go.Proofs.Ytboglnaagigcmaa.Stages
set_option linter.unusedVariables false

theorem own : ownKnob Try.prog.godebug = none := by kernel_rfl
theorem laidOut : laidOutB Try.prog = true := by kernel_rfl

/-- WHAT THE WALK IS TOLD OF A SLICE OF INTEGERS THAT CAME IN: it is nil; or it leads to a row of 'cap' cells, the numbers 'zs' (the first 'len' are its elements, the rest its spare room), each fitting its kind. -/
def IsRow (k : IntKind) (w : World) (a : Option Addr) (len cap : Nat) (zs : List Int) : Prop :=
  (a = none ∧ len = 0 ∧ cap = 0 ∧ zs = []) ∨
  ∃ x, a = some x ∧ len ≤ cap ∧ cap ≤ maxLen ∧ zs.length = cap ∧ (∀ i, i < zs.length → w.cell? (x.add i) = some (.int k (zs.getD i 0))) ∧ ∀ n ∈ zs, (Lit.int k n).wf = true

theorem kind6 (a : Int) : ∃ (m K : Int), a.tmod 6 = m ∧ -6 < m ∧ m < 6 ∧ (m + 6).tmod 6 = K ∧ 0 ≤ K ∧ K < 6 := by
  have key : ∀ b : Int, 0 ≤ b → 0 ≤ b.tmod 6 ∧ b.tmod 6 < 6 := fun b hb => by
    rw [IntWalk.rem_in _ _ hb]
    omega
  have hb : -6 < a.tmod 6 ∧ a.tmod 6 < 6 := by
    by_cases h : 0 ≤ a
    · have := key a h
      omega
    · have := key (-a) (by omega)
      rw [Int.neg_tmod] at this
      omega
  obtain ⟨h0, h8⟩ := key (a.tmod 6 + 6) (by omega)
  exact ⟨_, _, rfl, hb.1, hb.2, rfl, h0, h8⟩
/-- The blocks that steps turn. -/
def All (D E k : Nat) : Prop := k = D ∨ k = E
/-- Both schedules: the same tasks. -/
structure Two (w2 : World) (d D c m E c2 N : Nat) (T : Sc) (wx : World) : Prop where
  t : SchAt wx d D c T
  r : SchAt wx m E c2 T
  n : T.n = N
  k : Kept (All D E) w2 wx
  ne : D ≠ E
  ne1 : D ≠ m
  ne2 : d ≠ E
section
variable {w2 wx wy wz : World} {d D c m E c2 N : Nat} {T U : Sc}
theorem Two.grow (h : Two w2 d D c m E c2 N T wx) (hg : Grow wx wy) : Two w2 d D c m E c2 N T wy := ⟨h.t.grow hg, h.r.grow hg, h.n, h.k.trans (Grow.kept hg), h.ne, h.ne1, h.ne2⟩
/-- A step of both. -/
theorem Two.step (h : Two w2 d D c m E c2 N T wx) (h1 : SchAt wy d D c U) (hk1 : Kept (At D) wx wy) (h2 : SchAt wz m E c2 U) (hk2 : Kept (At E) wy wz) (hn : U.n = N) : Two w2 d D c m E c2 N U wz :=
  ⟨h1.kept hk2 h.ne2 h.ne, h2, hn, (h.k.trans (hk1.mono fun _ _ x => .inl x)).trans (hk2.mono fun _ _ x => .inr x), h.ne, h.ne1, h.ne2⟩
theorem Two.other (h : Two w2 d D c m E c2 N T wx) (hk : Kept (At D) wx wy) : SchAt wy m E c2 T := h.r.kept hk (fun e => h.ne1 (Eq.symm e)) (fun e => h.ne (Eq.symm e))
end
def PInv (w2 : World) (d D c m E c2 N : Nat) (wx : World) : Prop := ∃ T, Two w2 d D c m E c2 N T wx
def PLoop (w2 : World) (d D c m E c2 N M g : Nat) (i : Value) (wx : World) : Prop := ∃ j : Nat, j + g = M ∧ i = .int .i64 (j : Int) ∧ PInv w2 d D c m E c2 N wx
/-- Numbers of a call's own, behind a call that turned E alone. -/
theorem sl_past {w w' w'' : World} {A : Option Addr} {zs : List Nat} {E : Nat} (hs : Sl w' w'.heap.size .i64 A zs.length (ints zs)) (hn : ∀ x, A = some x → w.heap.size ≤ x.block) (hE : E < w.heap.size) (hk : Kept (At E) w' w'') : Sl w'' w''.heap.size .i64 A zs.length (ints zs) := by
  refine ⟨hs.1, fun h0 => ?_⟩
  obtain ⟨b, o, e, hb, hc⟩ := hs.at_ h0
  have h1 := hn _ e
  have h1 : w.heap.size ≤ b := h1
  have := hk.size
  exact ⟨b, o, e, by omega, fun j hj => hk.cellN (hc j hj) (fun x => by have x : b = E := x; omega)⟩

/-! ### STEP 1: THE WALK: the Go text returns true, AND WRITES NOTHING THAT WAS THERE: 'Below w.heap.size w w'' (Derived/Below.lean: '.refl', '.alloc', '.drew', '.setCell' at a new block, '.trans'). Open each 'IsRow' by 'rcases' AHEAD of 'go_enter'; part every test ahead of the walk. -/
set_option maxHeartbeats 16000000 in
set_option maxRecDepth 100000 in
theorem walk (a0 : Int) (a1 : Option Addr) (len1 cap1 : Nat) (w : World) (w0 : (Lit.int .i64 a0).wf = true) (w1 : OpsAt w a1 len1 cap1) :
    Calls Try.prog 3 #[.int .i64 a0, .slice a1 len1 cap1] w fun e w' => e = .returned (.bool true) ∧ Below w.heap.size w w' := by
  have k0 := bounds_i64 w0
  obtain ⟨hlc, hcm, hops⟩ := w1
  unfold maxLen at hcm
  have HOPS := Lib.hid hops
  clear hops
  by_cases hpg : 1 ≤ a0 ∧ a0 ≤ 64
  · obtain ⟨hp1, hp2⟩ := hpg
    obtain ⟨N, rfl⟩ := Int.eq_ofNat_of_zero_le (show 0 ≤ a0 by omega)
    have hN1 : 1 ≤ N := by omega
    have hN64 : N ≤ 64 := by omega
    have hNz1 : 1 ≤ (N : Int) := by omega
    have hNz : (N : Int) ≤ 64 := by omega
    clear k0 hp1 hp2
    have CN : Hid (∀ wx : World, Calls Try.prog 7 #[.int .i64 (N : Int)] wx (NewPost N wx)) := fun wx => new_good N (by omega) (by omega)
    have CR : Hid (∀ wx : World, Calls Try.prog 8 #[.int .i64 (N : Int)] wx (NewPost N wx)) := fun wx => rnew_good N (by omega) (by omega)
    by_cases h150 : 150 < len1
    · have h150z : (150 : Int) < (len1 : Int) := by omega
      clear h150
      go_enter Try.func3, Try.ntmps3
      go_wp2_with (first
        | (go_at_call 7; (with_reducible refine (CN.out _).mono ?_); rintro e w1 ⟨d, D, c, rfl, hl, hd1, hd2, hg⟩; have H0 := Lib.hid hl; have HD := Lib.hid (And.intro hd1 hd2); have G0 := Lib.hid hg; clear hl hd1 hd2 hg)
        | (go_at_call 8; (with_reducible refine (CR.out _).mono ?_); rintro e w2 ⟨m, E, c2, rfl, hl, hd1, hd2, hg⟩; have H1 := Lib.hid hl; have HD2 := Lib.hid (And.intro hd1 hd2); have G1 := Lib.hid hg; clear hl hd1 hd2 hg)
        | (go_at_call 9; (with_reducible refine (told_any _).mono ?_); rintro e w3 ⟨rfl, hge⟩; have HGE := Lib.hid hge; clear hge))
      go_ret
      exact ⟨rfl, Grow.below ((G0.out.trans G1.out).trans HGE.out)⟩
    · have h150z : (len1 : Int) ≤ 150 := by omega
      clear h150
      go_enter Try.func3, Try.ntmps3
      go_upto_block 0 with (first
        | (go_at_call 7; (with_reducible refine (CN.out _).mono ?_); rintro e w1 ⟨d, D, c, rfl, hl, hd1, hd2, hg⟩; have H0 := Lib.hid hl; have HD := Lib.hid (And.intro hd1 hd2); have G0 := Lib.hid hg; clear hl hd1 hd2 hg)
        | (go_at_call 8; (with_reducible refine (CR.out _).mono ?_); rintro e w2 ⟨m, E, c2, rfl, hl, hd1, hd2, hg⟩; have H1 := Lib.hid hl; have HD2 := Lib.hid (And.intro hd1 hd2); have G1 := Lib.hid hg; clear hl hd1 hd2 hg))
      have HOLDW : Hid (∀ k, k < w.heap.size → ¬ All D E k) := fun k hk h => by
        have h2 := HD.out.2
        have h4 := HD2.out.2
        have h5 := G0.out.size
        rcases h with h | h <;> omega
      have HTW : Hid (Two w2 d D c m E c2 N (fresh N) w2) := by
        have h1 := H0.out.r.lt
        have h2 := HD2.out.1
        have h3 := HD2.out.2
        exact ⟨H0.out.grow G1.out, H1.out, rfl, Kept.refl _ _, by omega, by omega, by omega⟩
      have HGG : Hid (Grow w w2) := G0.out.trans G1.out
      clear H0 H1 HD HD2 G0 G1 CN CR
      go_wp2_with (fail)
      go_loopg [7] len1 (PLoop w2 d D c m E c2 N len1)
      case atStart => exact ⟨0, by omega, rfl, _, HTW.out⟩
      case round =>
        obtain ⟨j, hg, rfl, T, htw⟩ := hrel
        have HG := Lib.hid hg
        have HT := Lib.hid htw
        clear hg htw HTW
        by_cases hj : j < len1
        · have hjz : (j : Int) < (len1 : Int) := by omega
          obtain ⟨ab, ao, rfl, hab, hall⟩ := HOPS.out (by omega)
          obtain ⟨x, hx⟩ := hall j hj
          have hkx : ∀ o v, w.cell? ⟨ab, o, none⟩ = some v → wr.cell? ⟨ab, o, none⟩ = some v := fun o v h => HT.out.k.cellN (HGG.out.cellN h id) (HOLDW.out ab hab)
          have ck := hkx _ _ hx.k
          have cp := hkx _ _ hx.p
          have cv := hkx _ _ hx.v
          have kB := hx.kB
          obtain ⟨km, K, hkm, hk1, hk2, hK, hK0, hK6⟩ := kind6 x.k
          clear hall hx hkx
          go_upto_block 2 with (fail)
          have hga : Grow wr (wr.alloc (.cells #[.int .i64 x.k, .int .i64 x.p, .int .i64 x.v] 29)) := (Kept.refl _ _).alloc _
          have hbo := Blk.new wr 29 [.int .i64 x.k, .int .i64 x.p, .int .i64 x.v]
          have HNG : Hid (¬ All D E wr.heap.size) := fun h => by
            have h1 := HT.out.t.r.lt
            have h2 := HT.out.r.r.lt
            rcases h with h | h <;> omega
          have HT1 := Lib.hid (HT.out.grow hga)
          have ho1 := hbo.cell 1
          have ho2 := hbo.cell 2
          simp only [List.getElem?_cons_zero, List.getElem?_cons_succ] at ho1 ho2
          clear hga hbo ck cp cv kB HT
          generalize wr.alloc (.cells #[.int .i64 x.k, .int .i64 x.p, .int .i64 x.v] 29) = wo at HT1 ho1 ho2 ⊢
          generalize wr.heap.size = g at HNG ho1 ho2 ⊢
          have HO1 : Hid (wo.drew.cell? ⟨g, 1, none⟩ = some (.int .i64 x.p)) := ho1
          have HO2 : Hid (wo.drew.cell? ⟨g, 2, none⟩ = some (.int .i64 x.v)) := ho2
          have HT2 := Lib.hid (HT1.out.grow (Kept.drew' wo))
          have HJ := Lib.hid hj
          clear hK hkm hk1 hk2 ho1 ho2 hjz hj
          generalize x.p = kp at *
          generalize x.v = kv at *
          go_cut [9, 10] (fun a b wx => ∃ z, a = .bool z ∧ b = .bool z ∧ PInv w2 d D c m E c2 N wx)
          case first =>
            rcases (show K = 0 ∨ K = 1 ∨ K = 2 ∨ K = 3 ∨ K = 4 ∨ K = 5 by omega) with rfl | rfl | rfl | rfl | rfl | rfl
            · have CD := Lib.hid (wake_any HT2.out.t kp kv)
              have CR : Hid (∀ wy, Kept (At D) wo.drew wy → Calls Try.prog 11 #[.pointer (some ⟨m, 0, none⟩), .int .i64 kp, .int .i64 kv] wy (BPost m E c2 wy (T.wakeB kp kv) (T.wake kp kv))) := fun wy hk => rwake_any (HT2.out.other hk) kp kv
              have HN : Hid ((T.wake kp kv).n = N) := (wake_n T kp kv).trans HT2.out.n
              clear hK0 hK6
              generalize T.wakeB kp kv = bo at *
              generalize T.wake kp kv = U at *
              go_upto_region 17 with (fail)
              refine wp_region_stages (Kept (All D E)) (kept_refl _) (kept_trans _) [([0, 1, 2, 3, 4, 6, 7, 8, 9, 10], 5), ([], 11)] [12, 13] (by kernel_rfl) (by kernel_rfl) ?_
              simp only [selSt, sel, List.map_cons, List.map_nil, List.getD_cons_succ, List.getD_cons_zero]
              refine st_cons fun K1 hK1 => ?_
              have u0 := up_cell (F := All D E) (w := wo.drew) (p := ⟨g, 1, none⟩) HO1.out HNG.out
              have u1 := up_cell (F := All D E) (w := wo.drew) (p := ⟨g, 2, none⟩) HO2.out HNG.out
              repeat (go_big_quiet_step (fail))
              refine wpQuiet_nil ?_
              clear u0 u1
              go_wp2_with (go_at_call 10; (with_reducible refine CD.out.mono ?_); rintro e w4 ⟨rfl, hl, hk⟩; have HL4 := Lib.hid hl; have HK4 := Lib.hid hk; clear hl hk)
              refine norm_up (hK1 _ _ (HK4.out.mono fun _ _ h => .inl h) (st_cons fun K2 hK2 => ?_))
              clear hK1 K1
              refine wpQuiet_nil ?_
              go_wp2_with (go_at_call 11; (with_reducible refine (CR.out _ HK4.out).mono ?_); rintro e w5 ⟨rfl, hr, hk⟩; have HR5 := Lib.hid hr; have HK5 := Lib.hid hk; clear hr hk)
              refine norm_up (hK2 _ _ (HK5.out.mono fun _ _ h => .inr h) (st_nil fun K3 hK3 => ?_))
              clear hK2 K2
              repeat (go_big_quiet_step (fail))
              refine wpQuiet_nil (hK3 _ ?_)
              clear hK3 K3
              go_wp2
              go_meet
              exact ⟨_, rfl, rfl, _, HT2.out.step HL4.out HK4.out HR5.out HK5.out HN.out⟩
            · have CD := Lib.hid (go_any HT2.out.t kp kv)
              have CR : Hid (∀ wy, Kept (At D) wo.drew wy → Calls Try.prog 13 #[.pointer (some ⟨m, 0, none⟩), .int .i64 kp, .int .i64 kv] wy (BPost m E c2 wy (T.goB kp kv) (T.go kp kv))) := fun wy hk => rgo_any (HT2.out.other hk) kp kv
              have HN : Hid ((T.go kp kv).n = N) := (go_n T kp kv).trans HT2.out.n
              clear hK0 hK6
              generalize T.goB kp kv = bo at *
              generalize T.go kp kv = U at *
              go_upto_region 19 with (fail)
              refine wp_region_stages (Kept (All D E)) (kept_refl _) (kept_trans _) [([0, 1, 2, 3, 4, 6, 7, 8, 9, 10], 5), ([], 11)] [12, 13] (by kernel_rfl) (by kernel_rfl) ?_
              simp only [selSt, sel, List.map_cons, List.map_nil, List.getD_cons_succ, List.getD_cons_zero]
              refine st_cons fun K1 hK1 => ?_
              have u0 := up_cell (F := All D E) (w := wo.drew) (p := ⟨g, 1, none⟩) HO1.out HNG.out
              have u1 := up_cell (F := All D E) (w := wo.drew) (p := ⟨g, 2, none⟩) HO2.out HNG.out
              repeat (go_big_quiet_step (fail))
              refine wpQuiet_nil ?_
              clear u0 u1
              go_wp2_with (go_at_call 12; (with_reducible refine CD.out.mono ?_); rintro e w4 ⟨rfl, hl, hk⟩; have HL4 := Lib.hid hl; have HK4 := Lib.hid hk; clear hl hk)
              refine norm_up (hK1 _ _ (HK4.out.mono fun _ _ h => .inl h) (st_cons fun K2 hK2 => ?_))
              clear hK1 K1
              refine wpQuiet_nil ?_
              go_wp2_with (go_at_call 13; (with_reducible refine (CR.out _ HK4.out).mono ?_); rintro e w5 ⟨rfl, hr, hk⟩; have HR5 := Lib.hid hr; have HK5 := Lib.hid hk; clear hr hk)
              refine norm_up (hK2 _ _ (HK5.out.mono fun _ _ h => .inr h) (st_nil fun K3 hK3 => ?_))
              clear hK2 K2
              repeat (go_big_quiet_step (fail))
              refine wpQuiet_nil (hK3 _ ?_)
              clear hK3 K3
              go_wp2
              go_meet
              exact ⟨_, rfl, rfl, _, HT2.out.step HL4.out HK4.out HR5.out HK5.out HN.out⟩
            · have CD := Lib.hid (block_any HT2.out.t kp kv)
              have CR : Hid (∀ wy, Kept (At D) wo.drew wy → Calls Try.prog 15 #[.pointer (some ⟨m, 0, none⟩), .int .i64 kp, .int .i64 kv] wy (BPost m E c2 wy (T.goB kp kv) (T.block kp kv))) := fun wy hk => rblock_any (HT2.out.other hk) kp kv
              have HN : Hid ((T.block kp kv).n = N) := (block_n T kp kv).trans HT2.out.n
              clear hK0 hK6
              generalize T.goB kp kv = bo at *
              generalize T.block kp kv = U at *
              go_upto_region 21 with (fail)
              refine wp_region_stages (Kept (All D E)) (kept_refl _) (kept_trans _) [([0, 1, 2, 3, 4, 6, 7, 8, 9, 10], 5), ([], 11)] [12, 13] (by kernel_rfl) (by kernel_rfl) ?_
              simp only [selSt, sel, List.map_cons, List.map_nil, List.getD_cons_succ, List.getD_cons_zero]
              refine st_cons fun K1 hK1 => ?_
              have u0 := up_cell (F := All D E) (w := wo.drew) (p := ⟨g, 1, none⟩) HO1.out HNG.out
              have u1 := up_cell (F := All D E) (w := wo.drew) (p := ⟨g, 2, none⟩) HO2.out HNG.out
              repeat (go_big_quiet_step (fail))
              refine wpQuiet_nil ?_
              clear u0 u1
              go_wp2_with (go_at_call 14; (with_reducible refine CD.out.mono ?_); rintro e w4 ⟨rfl, hl, hk⟩; have HL4 := Lib.hid hl; have HK4 := Lib.hid hk; clear hl hk)
              refine norm_up (hK1 _ _ (HK4.out.mono fun _ _ h => .inl h) (st_cons fun K2 hK2 => ?_))
              clear hK1 K1
              refine wpQuiet_nil ?_
              go_wp2_with (go_at_call 15; (with_reducible refine (CR.out _ HK4.out).mono ?_); rintro e w5 ⟨rfl, hr, hk⟩; have HR5 := Lib.hid hr; have HK5 := Lib.hid hk; clear hr hk)
              refine norm_up (hK2 _ _ (HK5.out.mono fun _ _ h => .inr h) (st_nil fun K3 hK3 => ?_))
              clear hK2 K2
              repeat (go_big_quiet_step (fail))
              refine wpQuiet_nil (hK3 _ ?_)
              clear hK3 K3
              go_wp2
              go_meet
              exact ⟨_, rfl, rfl, _, HT2.out.step HL4.out HK4.out HR5.out HK5.out HN.out⟩
            · have CD := Lib.hid (done_any HT2.out.t kp)
              have CR : Hid (∀ wy, Kept (At D) wo.drew wy → Calls Try.prog 17 #[.pointer (some ⟨m, 0, none⟩), .int .i64 kp] wy (BPost m E c2 wy (T.doneB kp) (T.done kp))) := fun wy hk => rdone_any (HT2.out.other hk) kp
              have HN : Hid ((T.done kp).n = N) := (done_n T kp).trans HT2.out.n
              clear hK0 hK6
              generalize T.doneB kp = bo at *
              generalize T.done kp = U at *
              go_upto_region 23 with (fail)
              refine wp_region_stages (Kept (All D E)) (kept_refl _) (kept_trans _) [([0, 1, 2, 4, 5, 6], 3), ([], 7)] [8, 9] (by kernel_rfl) (by kernel_rfl) ?_
              simp only [selSt, sel, List.map_cons, List.map_nil, List.getD_cons_succ, List.getD_cons_zero]
              refine st_cons fun K1 hK1 => ?_
              have u0 := up_cell (F := All D E) (w := wo.drew) (p := ⟨g, 1, none⟩) HO1.out HNG.out
              have u1 := up_cell (F := All D E) (w := wo.drew) (p := ⟨g, 2, none⟩) HO2.out HNG.out
              repeat (go_big_quiet_step (fail))
              refine wpQuiet_nil ?_
              clear u0 u1
              go_wp2_with (go_at_call 16; (with_reducible refine CD.out.mono ?_); rintro e w4 ⟨rfl, hl, hk⟩; have HL4 := Lib.hid hl; have HK4 := Lib.hid hk; clear hl hk)
              refine norm_up (hK1 _ _ (HK4.out.mono fun _ _ h => .inl h) (st_cons fun K2 hK2 => ?_))
              clear hK1 K1
              refine wpQuiet_nil ?_
              go_wp2_with (go_at_call 17; (with_reducible refine (CR.out _ HK4.out).mono ?_); rintro e w5 ⟨rfl, hr, hk⟩; have HR5 := Lib.hid hr; have HK5 := Lib.hid hk; clear hr hk)
              refine norm_up (hK2 _ _ (HK5.out.mono fun _ _ h => .inr h) (st_nil fun K3 hK3 => ?_))
              clear hK2 K2
              repeat (go_big_quiet_step (fail))
              refine wpQuiet_nil (hK3 _ ?_)
              clear hK3 K3
              go_wp2
              go_meet
              exact ⟨_, rfl, rfl, _, HT2.out.step HL4.out HK4.out HR5.out HK5.out HN.out⟩
            · have CD := Lib.hid (sfree_any HT2.out.t kv)
              have CR : Hid (∀ wy, Kept (At D) wo.drew wy → Calls Try.prog 20 #[.pointer (some ⟨m, 0, none⟩), .int .i64 kv] wy (FPost m E c2 wy (which T 2 kv) (T.free kv))) := fun wy hk => rfree_any (HT2.out.other hk) kv
              have HN : Hid ((T.free kv).n = N) := HT2.out.n
              have HEL : Hid (E < wo.drew.heap.size) := HT2.out.r.r.lt.2
              have HLN : Hid ((which T 2 kv).length ≤ 100000) := by have h1 := which_len T 2 kv; have h2 := HT2.out.t.r.size; show _ ≤ _; omega
              clear hK0 hK6
              generalize which T 2 kv = zs at *
              generalize T.free kv = U at *
              go_upto_region 25 with (fail)
              refine wp_region_stages (Kept (All D E)) (kept_refl _) (kept_trans _) [([0, 1, 2, 4, 5, 6], 3), ([], 7), ([], 8)] [9] (by kernel_rfl) (by kernel_rfl) ?_
              simp only [selSt, sel, List.map_cons, List.map_nil, List.getD_cons_succ, List.getD_cons_zero]
              refine st_cons fun K1 hK1 => ?_
              have u1 := up_cell (F := All D E) (w := wo.drew) (p := ⟨g, 2, none⟩) HO2.out HNG.out
              repeat (go_big_quiet_step (fail))
              refine wpQuiet_nil ?_
              clear u1
              go_wp2_with (go_at_call 19; (with_reducible refine CD.out.mono ?_); rintro e w4 ⟨A4, c4, rfl, hs, hn, hl, hk⟩; have HS4 := Lib.hid hs; have HN4 := Lib.hid hn; have HL4 := Lib.hid hl; have HK4 := Lib.hid hk; clear hs hn hl hk)
              refine norm_up (hK1 _ _ (HK4.out.mono fun _ _ h => .inl h) (st_cons fun K2 hK2 => ?_))
              clear hK1 K1
              refine wpQuiet_nil ?_
              go_wp2_with (go_at_call 20; (with_reducible refine (CR.out _ HK4.out).mono ?_); rintro e w5 ⟨A5, c5, rfl, hs, hn, hr, hk⟩; have HS5 := Lib.hid hs; have HR5 := Lib.hid hr; have HK5 := Lib.hid hk; clear hs hn hr hk)
              refine norm_up (hK2 _ _ (HK5.out.mono fun _ _ h => .inr h) (st_cons fun K3 hK3 => ?_))
              clear hK2 K2
              have HS4' := Lib.hid (sl_past HS4.out HN4.out HEL.out HK5.out)
              have CI := Lib.hid (ints_true A4 A5 zs.length c4 c5 _ _ (ints zs) HLN.out HS4'.out HS5.out)
              refine wpQuiet_nil ?_
              go_wp2_with (go_at_call 18; (with_reducible refine CI.out.mono ?_); rintro e w6 ⟨rfl, hg⟩; have HG6 := Lib.hid hg; clear hg)
              refine norm_up (hK3 _ _ (Grow.kept HG6.out) (st_nil fun K4 hK4 => ?_))
              clear hK3 K3
              repeat (go_big_quiet_step (fail))
              refine wpQuiet_nil (hK4 _ ?_)
              clear hK4 K4
              go_wp2
              go_meet
              exact ⟨_, rfl, rfl, _, (HT2.out.step HL4.out HK4.out HR5.out HK5.out HN.out).grow HG6.out⟩
            · have CD := Lib.hid (pick_any HT2.out.t.r kv)
              have CR : Hid (∀ wy, Grow wo.drew wy → Calls Try.prog 22 #[.pointer (some ⟨m, 0, none⟩), .int .i64 kv] wy (IPost wy (T.pick kv))) := fun wy hk => rpick_any (HT2.out.r.grow hk) kv
              clear hK0 hK6
              generalize T.pick kv = z at *
              have hzz : (z != z) = false := by simp
              go_upto_region 14 with (fail)
              refine wp_region_stages Grow (kept_refl _) (kept_trans _) [([0, 1, 2, 4, 5, 6], 3), ([], 7)] [8] (by kernel_rfl) (by kernel_rfl) ?_
              simp only [selSt, sel, List.map_cons, List.map_nil, List.getD_cons_succ, List.getD_cons_zero]
              refine st_cons fun K1 hK1 => ?_
              have u1 := up_cell (F := fun _ => False) (w := wo.drew) (p := ⟨g, 2, none⟩) HO2.out id
              repeat (go_big_quiet_step (fail))
              refine wpQuiet_nil ?_
              clear u1
              go_wp2_with (go_at_call 21; (with_reducible refine CD.out.mono ?_); rintro e w4 ⟨rfl, hg⟩; have HG4 := Lib.hid hg; clear hg)
              refine norm_up (hK1 _ _ HG4.out (st_cons fun K2 hK2 => ?_))
              clear hK1 K1
              refine wpQuiet_nil ?_
              go_wp2_with (go_at_call 22; (with_reducible refine (CR.out _ HG4.out).mono ?_); rintro e w5 ⟨rfl, hg⟩; have HG5 := Lib.hid hg; clear hg)
              refine norm_up (hK2 _ _ HG5.out (st_nil fun K3 hK3 => ?_))
              clear hK2 K2
              repeat (go_big_quiet_step (fail))
              refine wpQuiet_nil (hK3 _ ?_)
              clear hK3 K3
              go_wp2
              go_meet
              exact ⟨_, rfl, rfl, _, HT2.out.grow (HG4.out.trans HG5.out)⟩
          case rest =>
            obtain ⟨z, rfl, rfl, U, htw⟩ := hcut
            have HU := Lib.hid htw
            have hzz : (z != z) = false := by simp
            have hss : (U.stuck != U.stuck) = false := by simp
            have CA : Hid (∀ wx, Grow wc wx → Calls Try.prog 23 #[.pointer (some ⟨d, 0, none⟩)] wx (LPost wx U.ready)) := fun wx h => sready_any (HU.out.t.grow h).r
            have CB : Hid (∀ wx, Grow wc wx → Calls Try.prog 24 #[.pointer (some ⟨m, 0, none⟩)] wx (LPost wx U.ready)) := fun wx h => rready_any (HU.out.r.grow h)
            have CS : Hid (∀ wx, Grow wc wx → Calls Try.prog 25 #[.pointer (some ⟨d, 0, none⟩)] wx fun e w' => e = .returned (.bool U.stuck) ∧ Grow wx w') := fun wx h => stuck_any (HU.out.t.grow h)
            have CT : Hid (∀ wx, Grow wc wx → Calls Try.prog 26 #[.pointer (some ⟨m, 0, none⟩)] wx fun e w' => e = .returned (.bool U.stuck) ∧ Grow wx w') := fun wx h => rstuck_any (HU.out.r.grow h)
            have HLN : Hid (U.ready.length ≤ 100000) := by have h1 := which_len U 1 (-1); have h2 := HU.out.t.r.size; show (which U 1 (-1)).length ≤ _; omega
            have hjz : (j : Int) < (len1 : Int) := by have := HJ.out; omega
            clear htw HT1 HT2 HO1 HO2 hK0 hK6
            generalize U.ready = zs at *
            generalize U.stuck = st at *
            go_upto_region 29 with (first
              | (go_at_call 23; (with_reducible refine (CA.out _ (Kept.refl _ _)).mono ?_); rintro e w4 ⟨A4, c4, rfl, hs, hn, hg⟩; have HS4 := Lib.hid hs; have HG4 := Lib.hid hg; clear hs hn hg)
              | (go_at_call 24; (with_reducible refine (CB.out _ HG4.out).mono ?_); rintro e w5 ⟨A5, c5, rfl, hs, hn, hg⟩; have HS5 := Lib.hid hs; have HG5 := Lib.hid hg; clear hs hn hg)
              | (go_at_call 18; (with_reducible refine (ints_true A4 A5 zs.length c4 c5 _ _ (ints zs) HLN.out (HS4.out.keep fun b o hb => HG5.out.cell (p := ⟨b, o, none⟩) hb id) HS5.out).mono ?_); rintro e w6 ⟨rfl, hg⟩; have HG6 := Lib.hid ((HG4.out.trans HG5.out).trans hg); clear hg)
              | (go_at_call 25; (with_reducible refine (CS.out _ HG6.out).mono ?_); rintro e w7 ⟨rfl, hg⟩; have HG7 := Lib.hid (HG6.out.trans hg); clear hg)
              | (go_at_call 26; (with_reducible refine (CT.out _ HG7.out).mono ?_); rintro e w8 ⟨rfl, hg⟩; have HG8 := Lib.hid (HG7.out.trans hg); clear hg))
            have HU8 := Lib.hid (HU.out.grow HG8.out)
            clear CA CB CS CT HU
            go_wp2
            go_loopg [11] N (fun gx i wx => ∃ q : Nat, q + gx = N ∧ i = .int .i64 (q : Int) ∧ Grow w8 wx)
            case atStart => exact ⟨0, by omega, rfl, Kept.refl _ _⟩
            case round =>
              obtain ⟨q, hg, rfl, hgr⟩ := hrel
              have HQ := Lib.hid hg
              have HGR := Lib.hid hgr
              have HU9 := Lib.hid (HU8.out.grow hgr)
              clear hg hgr
              by_cases hq : q < N
              · have hqz : (q : Int) < (N : Int) := by omega
                have hqn : q < U.n := by rw [HU8.out.n]; exact hq
                have HV := Lib.hid (tval_in hqn)
                have c0 := HU9.out.r.r.c0
                rw [HU8.out.n] at c0
                have r0 := HU9.out.r.r.sl.s hqn
                have r1 := HU9.out.r.r.sl.q hqn
                have r2 := HU9.out.r.r.sl.o hqn
                have HQJ := Lib.hid hq
                clear hq hqn
                generalize U.S q = x0 at *
                generalize U.P q = x1 at *
                generalize U.O q = x2 at *
                go_upto_region 32 with (fail)
                refine wp_region_stages Grow (kept_refl _) (kept_trans _) [([0, 1, 3, 4, 5, 6, 7, 8, 9], 2)] [10] (by kernel_rfl) (by kernel_rfl) ?_
                simp only [selSt, sel, List.map_cons, List.map_nil, List.getD_cons_succ, List.getD_cons_zero]
                refine st_cons fun K1 hK1 => ?_
                have u0 := up_cell (F := fun _ => False) (w := wr.drew) c0 id
                have u1 := up_cell (F := fun _ => False) (w := wr.drew) r0 id
                have u2 := up_cell (F := fun _ => False) (w := wr.drew) r1 id
                have u3 := up_cell (F := fun _ => False) (w := wr.drew) r2 id
                repeat (go_big_quiet_step (fail))
                refine wpQuiet_nil ?_
                clear u0 u1 u2 u3
                go_wp2_with (go_at_call 27; (with_reducible refine (t_task _ (HU9.out.t.grow (Kept.drew' wr)) HV.out).mono ?_); rintro e w9 ⟨rfl, hg⟩; have HG9 := Lib.hid hg; clear hg)
                refine norm_up (hK1 _ _ HG9.out (st_nil fun K2 hK2 => ?_))
                clear hK1 K1
                repeat (go_big_quiet_step (fail))
                refine wpQuiet_nil (hK2 _ ?_)
                clear hK2 K2
                go_wp2
                go_roundg (N - (q + 1))
                case measure => have := HQ.out; have := HQJ.out; omega
                case rel => exact ⟨q + 1, by have := HQ.out; have := HQJ.out; omega, by go_num, HGR.out.trans ((Kept.drew' wr).trans HG9.out)⟩
              · obtain rfl : q = N := by have := HQ.out; omega
                clear hq
                go_wp2
                go_roundg (len1 - (j + 1))
                case measure => have := HG.out; have := HJ.out; omega
                case rel => exact ⟨j + 1, by have := HG.out; have := HJ.out; omega, by go_num, U, HU9.out⟩
        · obtain rfl : j = len1 := by have := HG.out; omega
          have HFIN : Hid (Below w.heap.size w wr) := Kept.below ((Grow.kept HGG.out).trans HT.out.k) (fun k h => Nat.le_of_not_lt fun hk => HOLDW.out k hk h) (Nat.le_refl _)
          have HV0 : Hid (tval T (-1) = .agg #[.int .i64 0, .int .i64 0, .int .i64 0]) := tval_none (decide_eq_false (by omega))
          have HV1 : Hid (tval T (N : Int) = .agg #[.int .i64 0, .int .i64 0, .int .i64 0]) := tval_none (decide_eq_false (by have := HT.out.n; omega))
          clear hj HOPS
          go_wp2_with (first
            | (go_at_call 9; (with_reducible refine (told_any _).mono ?_); rintro e w3 ⟨rfl, hge⟩; have HGE := Lib.hid hge; have H3 := Lib.hid (HT.out.t.grow hge); clear hge)
            | (go_at_call 27; (with_reducible refine (t_task _ H3.out HV0.out).mono ?_); rintro e w4 ⟨rfl, hg⟩; have HG4 := Lib.hid hg; have H4 := Lib.hid (H3.out.grow hg); clear hg)
            | (go_at_call 27; (with_reducible refine (t_task _ H4.out HV1.out).mono ?_); rintro e w5 ⟨rfl, hg⟩; have HG5 := Lib.hid hg; clear hg))
          go_ret
          exact ⟨rfl, HFIN.out.trans ((Grow.below ((HGE.out.trans HG4.out).trans HG5.out)).mono HFIN.out.size)⟩
  · have CN := Lib.hid fun (wx : World) => new_bad (w := wx) a0 hpg
    have CR := Lib.hid fun (wx : World) => rnew_bad (w := wx) a0 hpg
    clear hpg
    go_enter Try.func3, Try.ntmps3
    go_wp2_with (first
      | (go_at_call 7; (with_reducible refine (CN.out _).mono ?_); rintro e w' ⟨rfl, rfl⟩)
      | (go_at_call 8; (with_reducible refine (CR.out _).mono ?_); rintro e w' ⟨rfl, rfl⟩)
      | (go_at_call 9; (with_reducible refine (told_any _).mono ?_); rintro e w3 ⟨rfl, hge⟩; have HGE := Lib.hid hge; clear hge))
    go_ret
    exact ⟨rfl, Grow.below HGE.out⟩

/-! ### THE ROW's STEP: WRITTEN OUT: LEAVE IT -/
set_option maxRecDepth 100000 in
theorem lifted (os : Os) (started : os.Started) (H : Type) (enc : TypeId × Value → H) :
    ReturnsInHanded {} Try.checked os 3 .any (Rows.schedPlaysSpec.pre6 enc Try.prog Try.f3 Rows.schedPlaysRow.domain false) (Rows.schedPlaysSpec.post enc Try.prog Try.f3 false true false false) := by
  refine returnsInHanded_of_change (C := Try.checked) own started (by kernel_rfl) Try.func3
    (ChangeSpec.witness6 (enc := enc) (C := Try.checked) false ⟨#[], #[.int .i64 0, .slice none 0 0], []⟩ 8 (by kernel_rfl) (by kernel_rfl) (by kernel_rfl) (by kernel_rfl)) ?_
  intro W base args ds gs before hval0 hW hcnd _
  have hval : ∀ (j : Nat) t v, Try.f3.params[j]? = some t → args[j]? = some v → Value.okWide Try.prog W .any base t v := hval0
  have hW' := hW
  obtain ⟨p, q, hA0, hV, rfl, hfz, hnd⟩ := hW
  have hA : DataW.TrodAll enc Try.prog W 0 (fun _ => true) true Try.f3.params.toList args.toList ds p := hA0
  rw [Try.params3] at hA hval
  obtain ⟨v0, vs0, d0, ds0, p0, q0, hargs, rfl, rfl, h0, r0⟩ := trodAll_cons hA
  obtain ⟨v1, vs1, d1, ds1, p1, q1, rfl, rfl, rfl, h1, r1⟩ := trodAll_cons r0
  obtain ⟨rfl, rfl, rfl⟩ := trodAll_nil r1
  obtain rfl : args = #[v0, v1] := by cases args; simp_all
  obtain ⟨rfl, rfl⟩ := trodVars_none hV
  obtain ⟨a0, rfl, rfl, rfl, w0⟩ := open_int Try.underlying3 (hval 0 3 v0 rfl rfl) h0
  obtain ⟨a1, len1, cap1, rfl⟩ := okWide_slice Try.underlying22 (hval 1 22 v1 rfl rfl)
  have k1 := h1
  have lt1 : ∀ x ∈ p1, x.block < W.heap.size := by obtain ⟨m, hm⟩ := k1; exact DataW.trod_lt m _ _ _ hm
  have w1 : OpsAt W a1 len1 cap1 := by obtain ⟨fuel, hf⟩ := h1; exact ops_open hf
  clear hA0 hval0
  refine (walk a0 a1 len1 cap1 W w0 w1).mono fun e W' ⟨he, bel⟩ => ?_
  subst he
  exact ⟨_, rfl, _, _, _, [], _, [], hW', trodAll_mk1 (shut_bool Try.underlying4 _), (trodAll_cons_mk (shut_int Try.underlying3 w0) (trodAll_cons_mk (Below.trod laidOut (by kernel_rfl) (of_decide_eq_true (by kernel_rfl)) k1 bel lt1) trodAll_mk0)), rfl, bel.frame _, fun h => by cases h⟩

theorem over : Rows.schedPlaysRow.holds Try.pinned (OpenSpec.ofChange Rows.schedPlaysSpec) :=
  OpenClaim.holds_of_wide 3 Try.f3 rfl rfl rfl rfl rfl rfl rfl ⟨rfl, rfl, rfl, rfl, rfl⟩ rfl rfl rfl rfl rfl (by kernel_rfl) Try.func3 (by kernel_rfl)
    (of_decide_eq_true (by kernel_rfl)) (by unfold Func.isWrapper; first | (rw [if_pos (by decide +kernel)]; kernel_rfl) | (rw [if_neg (by decide +kernel)]; exact ⟨rfl, rfl⟩))
    (fun os started H enc _ => lifted os started H enc)

/-- ████ THE STATEMENT ████ -/
theorem proved : Rows.SchedPlaysSaid := over
#print axioms proved
end Go.Proofs.Ytboglnaagigcmaa.schedPlays
