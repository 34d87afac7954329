/-
  For every input the call of lavabolaw3.DiskPlays returns true and leaves its arguments as they were; no condition.
-/
import Derived.Test.YtfjcbcpfhjaeeaaPlays
import Derived.Deep.CutBlock
import Derived.Test.YtfjcbcpfhjaeeaaRows
import Derived.WalkKit
import Derived.ProofKit
import Derived.OpenShut
import Derived.ShutString
import Derived.ChangeOld
import Derived.Below
namespace Go.Proofs.Ytfjcbcpfhjaeeaa.diskPlays
open Go.ChangeShapes Go.WideShapes Go.ChangeAt Go.RowKit
open Go.ChangeMaps (open_string shut_string)
open Go.Proofs.Ytfjcbcpfhjaeeaa.SumM Go.Proofs.Ytfjcbcpfhjaeeaa.Mem Go.Proofs.Ytfjcbcpfhjaeeaa.Blk Go.Proofs.Ytfjcbcpfhjaeeaa.PageM Go.Proofs.Ytfjcbcpfhjaeeaa.Str Go.Proofs.Ytfjcbcpfhjaeeaa.Dev Go.Proofs.Ytfjcbcpfhjaeeaa.LibC Go.Proofs.Ytfjcbcpfhjaeeaa.DevC Go.Proofs.Ytfjcbcpfhjaeeaa.DevM Go.Proofs.Ytfjcbcpfhjaeeaa.DevY Go.Proofs.Ytfjcbcpfhjaeeaa.DevK Go.Proofs.Ytfjcbcpfhjaeeaa.DevX Go.Proofs.Ytfjcbcpfhjaeeaa.DevN Go.Proofs.Ytfjcbcpfhjaeeaa.Told3 Go.Proofs.Ytfjcbcpfhjaeeaa.DevS Go.Proofs.Ytfjcbcpfhjaeeaa.RefD Go.Proofs.Ytfjcbcpfhjaeeaa.RefM Go.Proofs.Ytfjcbcpfhjaeeaa.RefY Go.Proofs.Ytfjcbcpfhjaeeaa.RefX Go.Proofs.Ytfjcbcpfhjaeeaa.RefN Go.Proofs.Ytfjcbcpfhjaeeaa.Ops Go.Proofs.Ytfjcbcpfhjaeeaa.Plays Go.Proofs.Ytfjcbcpfhjaeeaa.Stages
set_option linter.unusedVariables false

theorem own : ownKnob Try.prog.godebug = none := by kernel_rfl
theorem laidOut : laidOutB Try.prog = true := by kernel_rfl

/-- WHAT THE WALK IS TOLD OF A SLICE OF INTEGERS THAT CAME IN: it is nil; or it leads to a row of 'cap' cells, the numbers 'zs' (the first 'len' are its elements, the rest its spare room), each fitting its kind. -/
def IsRow (k : IntKind) (w : World) (a : Option Addr) (len cap : Nat) (zs : List Int) : Prop :=
  (a = none ∧ len = 0 ∧ cap = 0 ∧ zs = []) ∨
  ∃ x, a = some x ∧ len ≤ cap ∧ cap ≤ maxLen ∧ zs.length = cap ∧ (∀ i, i < zs.length → w.cell? (x.add i) = some (.int k (zs.getD i 0))) ∧ ∀ n ∈ zs, (Lit.int k n).wf = true

/-- The state ahead of step j: both devices are at one state. -/
def PInv (w1 : World) (d D W : Nat) (G : Nat → Prop) (r : Rf) (j : Nat) (wx : World) : Prop := ∃ S, Two w1 d D W G r S S wx ∧ Bnd S j
def PLoop (w1 : World) (d D W : Nat) (G : Nat → Prop) (r : Rf) (M g : Nat) (i : Value) (wx : World) : Prop := ∃ j : Nat, j + g = M ∧ i = .int .i64 (j : Int) ∧ PInv w1 d D W G r j wx
theorem kind8 (a : Int) : ∃ (m K : Int), a.tmod 8 = m ∧ -8 < m ∧ m < 8 ∧ (m + 8).tmod 8 = K ∧ 0 ≤ K ∧ K < 8 := by
  have key : ∀ b : Int, 0 ≤ b → 0 ≤ b.tmod 8 ∧ b.tmod 8 < 8 := fun b hb => by
    rw [IntWalk.rem_in _ _ hb]
    omega
  have hb : -8 < a.tmod 8 ∧ a.tmod 8 < 8 := by
    by_cases h : 0 ≤ a
    · have := key a h
      omega
    · have := key (-a) (by omega)
      rw [Int.neg_tmod] at this
      omega
  obtain ⟨h0, h8⟩ := key (a.tmod 8 + 8) (by omega)
  exact ⟨_, _, rfl, hb.1, hb.2, rfl, h0, h8⟩
theorem sl_fresh {w w' : World} {F : Nat → Prop} {B n M : Nat} {A : Option Addr} {zs : List Int} (h : Sl w B .u8 A n zs) (hA : ∀ x, A = some x → M ≤ x.block) (hk : Kept F w w') (hF : ∀ k, F k → k < M) : Sl w' B .u8 A n zs := by
  refine ⟨h.len, fun hn => ?_⟩
  obtain ⟨b, off, rfl, hb, hc⟩ := h.at_ hn
  exact ⟨b, off, rfl, hb, fun j hj => hk.cellN (hc j hj) fun x => by have := hF _ x; have := hA _ rfl; simp only at *; omega⟩

/-! ### STEP 1: THE WALK: the Go text returns true, AND WRITES NOTHING THAT WAS THERE: 'Below w.heap.size w w'' (Derived/Below.lean: '.refl', '.alloc', '.drew', '.setCell' at a new block, '.trans'). Open each 'IsRow' by 'rcases' AHEAD of 'go_enter'; part every test ahead of the walk. -/
set_option maxHeartbeats 8000000 in
set_option maxRecDepth 100000 in
theorem walk (a0 : Int) (a1 : Option Addr) (len1 cap1 : Nat) (w : World) (w0 : (Lit.int .i64 a0).wf = true) (w1 : OpsAt w a1 len1 cap1) :
    Calls Try.prog 3 #[.int .i64 a0, .slice a1 len1 cap1] w fun e w' => e = .returned (.bool true) ∧ Below w.heap.size w w' := by
  have k0 := bounds_i64 w0
  obtain ⟨hlc, hcm, hops⟩ := w1
  unfold maxLen at hcm
  have HOPS := Lib.hid hops
  clear hops
  by_cases hpg : 1 ≤ a0 ∧ a0 ≤ 48
  · obtain ⟨hp1, hp48⟩ := hpg
    obtain ⟨N, rfl⟩ := Int.eq_ofNat_of_zero_le (show 0 ≤ a0 by omega)
    have hN1 : 1 ≤ N := by omega
    have hN48 : N ≤ 48 := by omega
    go_enter Try.func3, Try.ntmps3
    go_upto_region 6 with (first
      | (go_at_call 8; (with_reducible refine (new_good N hN1 hN48).mono ?_); rintro e w1 ⟨d, D, W, rfl, hdev, hold, hgr⟩; have HD1 := Lib.hid hdev; have HOLD := Lib.hid hold; have HG1 := Lib.hid hgr; clear hdev hold hgr)
      | (go_at_call 9; (with_reducible refine (rnew_good N hN1 hN48).mono ?_); rintro e w2 ⟨r, rfl, href, hnew, hgr⟩; have HR2 := Lib.hid href; have HNEW := Lib.hid hnew; have HG2 := Lib.hid hgr; clear href hnew hgr))
    by_cases h100 : 100 < len1
    · have h100z : (100 : Int) < (len1 : Int) := by omega
      go_wp2_with (go_at_call 10; (with_reducible refine (told_any _).mono ?_); rintro e w3 ⟨rfl, hge⟩; have HGE := Lib.hid hge; clear hge)
      go_ret
      exact ⟨rfl, Grow.below ((HG1.out.trans HG2.out).trans HGE.out)⟩
    · have h100z : (len1 : Int) ≤ 100 := by omega
      have HLOW := Lib.hid (newG_low HD1.out HG1.out.size)
      have HLOWR := Lib.hid HR2.out.lt
      have HAP : Hid (∀ k, POwn r k → ¬ Own d D W k) := fun k h h' => by
        have e1 := HNEW.out k h
        have e2 := HLOW.out k (.inr h')
        omega
      obtain ⟨G, hG⟩ : ∃ G : Nat → Prop, G = fun k => newG w d D W k ∨ POwn r k := ⟨_, rfl⟩
      have HGP : Hid (∀ k, POwn r k → G k) := fun k h => by rw [hG]; exact .inr h
      have HGL : Hid (∀ k, G k → k < w2.heap.size) := fun k h => by
        rw [hG] at h
        rcases h with h | h
        · exact Nat.lt_of_lt_of_le (HLOW.out k h) HG2.out.size
        · exact HLOWR.out k h
      have HTW : Hid (Two w2 d D W G r (newS N) (newS N) w2) := by
        refine ⟨(HD1.out.newer HG2.out).turn (fun k hk hg => ?_) (fun k h => ?_), HR2.out, Kept.refl _ _⟩
        · rw [hG] at hg
          exact hg.elim .inl (fun x => .inr (HNEW.out k x))
        · rw [hG]; exact .inl (own_new k h)
      have HOLDW : Hid (∀ k, k < w.heap.size → ¬ (Own d D W k ∨ POwn r k)) := fun k hk h => by
        have e1 := HOLD.out
        have e2 := HG1.out.size
        rcases h with (rfl | rfl | rfl) | h
        · omega
        · omega
        · omega
        · have := HNEW.out k h; omega
      have HGG : Hid (Grow w w2) := Kept.then HG1.out HG2.out (fun _ _ x => x)
      clear hG HNEW HG1 HG2 HD1 HR2 HOLD HLOW HLOWR
      go_wp2
      go_loopg [7] len1 (PLoop w2 d D W G r len1)
      case atStart => exact ⟨0, by omega, rfl, newS N, HTW.out, ⟨Nat.le_refl _, by show (0 : Nat) ≤ 1000000; omega⟩⟩
      case round =>
        obtain ⟨j, hg, rfl, S, htw, hbnd⟩ := hrel
        have HT := Lib.hid htw
        have HB := Lib.hid hbnd
        have HG := Lib.hid hg
        clear htw hbnd hg HTW
        by_cases hj : j < len1
        · have hjz : (j : Int) < (len1 : Int) := by omega
          obtain ⟨ab, ao, rfl, hab, hall⟩ := HOPS.out (by omega)
          obtain ⟨x, hx⟩ := hall j hj
          have hkx : ∀ o v, w.cell? ⟨ab, o, none⟩ = some v → wr.cell? ⟨ab, o, none⟩ = some v := fun o v h => HT.out.hk.cellN (HGG.out.cellN h id) (HOLDW.out ab hab)
          have ck := hkx _ _ hx.k
          have cp := hkx _ _ hx.p
          have cn := hkx _ _ hx.n
          have cc := hkx _ _ hx.c
          have cs := hkx _ _ hx.s
          have kB := hx.kB
          have HX := Lib.hid hx
          clear hall hx hkx
          obtain ⟨km, K, hkm, hk1, hk2, hK, hK0, hK8⟩ := kind8 x.k
          have cl : (x.len : Int) ≤ 9223372036854775807 := by have := HX.out.lenB; unfold maxLen at this; omega
          by_cases h60 : 60 < x.len
          · have h60z : (60 : Int) < (x.len : Int) := by omega
            have HFIN : Hid (Below w.heap.size w wr) := Kept.below ((Grow.kept HGG.out).then HT.out.hk (fun _ _ x => x)) (fun k h => Nat.le_of_not_lt fun hk => HOLDW.out k hk h) (Nat.le_refl _)
            clear hK hkm hk1 hk2 hK0 hK8
            go_wp2_with (go_at_call 10; (with_reducible refine (told_any _).mono ?_); rintro e w3 ⟨rfl, hge⟩; have HGE := Lib.hid hge; clear hge)
            go_ret
            exact ⟨rfl, (HFIN.out.trans (Below.mono (Grow.below ((Kept.refl _ _).alloc _)) HFIN.out.size)).trans (HGE.out.below.mono (Nat.le_trans HFIN.out.size (by simp)))⟩
          · have h60z : (x.len : Int) ≤ 60 := by omega
            go_upto_block 2 with (fail)
            clear hK hkm hk1 hk2 ck cp cn cc cs kB cl h60 hjz
            have hga : Grow wr (wr.alloc (.cells #[Value.int .i64 x.k, Value.int .i64 x.p, Value.int .i64 x.n, Value.int .u8 x.c, Value.slice x.A x.len x.cap] 30)) := (Kept.refl _ _).alloc _
            have HTA := Lib.hid (HT.out.grow hga)
            have HBA := Lib.hid (Blk.new wr 30 [Value.int .i64 x.k, Value.int .i64 x.p, Value.int .i64 x.n, Value.int .u8 x.c, Value.slice x.A x.len x.cap])
            have hgb : ¬ Own d D W wr.heap.size ∧ ¬ POwn r wr.heap.size := ⟨fun h => by
              have := HT.out.hd.lt
              rcases h with h | h | h <;> omega, fun h => by
              have := HT.out.hr.lt _ h
              omega⟩
            have HGB := Lib.hid hgb
            clear hga hgb HT
            generalize wr.alloc (.cells #[Value.int .i64 x.k, Value.int .i64 x.p, Value.int .i64 x.n, Value.int .u8 x.c, Value.slice x.A x.len x.cap] 30) = wa at HTA HBA ⊢
            generalize wr.heap.size = gb at HBA HGB ⊢
            have o1 : wa.cell? ⟨gb, 1, none⟩ = some (.int .i64 x.p) := HBA.out.cell 1
            have o2 : wa.cell? ⟨gb, 2, none⟩ = some (.int .i64 x.n) := HBA.out.cell 2
            have o3 : wa.cell? ⟨gb, 3, none⟩ = some (.int .u8 x.c) := HBA.out.cell 3
            have o4 : wa.cell? ⟨gb, 4, none⟩ = some (.slice x.A x.len x.cap) := HBA.out.cell 4
            have HNB : Hid ((S.n : Int) < 9223372036854775807) := by
              have := HB.out.1
              show (S.n : Int) < 9223372036854775807
              omega
            have HBB : Hid ((S.bad : Int) < 9223372036854775807) := by
              have := HB.out.2
              show (S.bad : Int) < 9223372036854775807
              omega
            have HPB : Hid (-9223372036854775808 ≤ x.p ∧ x.p < 9223372036854775808) := by
              have := HX.out.pB
              show -9223372036854775808 ≤ x.p ∧ x.p < 9223372036854775808
              omega
            have HSLX : Hid (∀ w', Kept (fun k => Own d D W k ∨ POwn r k) w2 w' → Sl w' w.heap.size .u8 x.A x.len x.zs) := fun w' hk => Sl.kept HX.out.sl ((Grow.kept HGG.out).then hk (fun _ _ x => x)) (Nat.le_refl _) (fun b hb => HOLDW.out b hb)
            go_cut [9, 10, 11, 12] from 50 to 137 (fun _ _ _ _ wx => PInv w2 d D W G r (j + 1) wx)
            case first =>
              by_cases h01 : K ≤ 1
              · obtain ⟨S', c, zs, hCD, hCR, hB'⟩ : ∃ (S' : Dv) (c : Int) (zs : List Int), (∀ wx, Two w2 d D W G r S S wx → Calls Try.prog 11 #[.pointer (some ⟨d, 0, none⟩), .int .i64 x.p] wx (ReadAny d D W G wx c zs S')) ∧ (∀ wx, RefAt wx r S → Calls Try.prog 12 #[.pointer (some ⟨r.m, 0, none⟩), .int .i64 x.p] wx (RefPost r wx (.tuple #[.string (strOfNums zs), .int .i64 c]) S')) ∧ Bnd S' (j + 1) :=
                  ⟨_, _, _, fun wx h => dread_any h.hd x.p HPB.out.1 HPB.out.2 HNB.out HBB.out, fun wx h => rread_any h x.p HPB.out.1 HPB.out.2 HNB.out HBB.out, HB.out.read x.p⟩
                have CD := Lib.hid hCD
                have CR := Lib.hid hCR
                have HB' := Lib.hid hB'
                have hcc : (c != c) = false := by simp
                clear hCD hCR hB' o2 o3 o4
                rcases (show K = 0 ∨ K = 1 by omega) with rfl | rfl
                all_goals
                  clear h01 hK0 hK8
                  go_wp2_with (first
                    | (go_at_call 11; (with_reducible refine (CD.out _ HTA.out).mono ?_); rintro e w4 ⟨A4, n4, c4, rfl, hsl, hfr, hdev, hk⟩; have HT4 := Lib.hid (Two.dev HTA.out hdev hk HAP.out); have HS4 := Lib.hid hsl; have HF4 := Lib.hid hfr; have o5 := hk.cellN o1 HGB.out.1; clear hsl hfr hdev hk)
                    | (go_at_call 12; (with_reducible refine (CR.out _ HT4.out.hr).mono ?_); rintro e w5 ⟨rfl, hr5, hk5⟩; have HT5 := Lib.hid (Two.ref HT4.out hr5 hk5 HAP.out HGP.out); have s5 := (sl_fresh HS4.out HF4.out hk5 HTA.out.hr.lt).str 28 9 5 Try.underlying28 Try.underlying5 Try.underlying9 c4; clear hr5 hk5))
                  go_meet
                  exact ⟨_, HT5.out, HB'.out⟩
              · have HSB : Hid (∀ {wx wy : World} {F : Nat → Prop}, Two w2 d D W G r S S wx → Kept F wx wy → (∀ k, F k → Own d D W k ∨ POwn r k) → Sl wy w.heap.size .u8 x.A x.len x.zs) := fun h hk hF => HSLX.out _ (h.hk.then hk (fun k _ x => hF k x))
                by_cases h23 : K ≤ 3
                · obtain ⟨S', c, hCD, hCR, hB'⟩ : ∃ (S' : Dv) (c : Int), (∀ wx g, Two w2 d D W G r S S wx → ¬ Own d D W g → NBlk wx g 5 .u8 (ofB x.c) → Calls Try.prog 13 #[.pointer (some ⟨d, 0, none⟩), .int .i64 x.p, .slice (some ⟨g, 0, none⟩) 24 24] wx (DevPost d D W G wx (.int .i64 c) S')) ∧ (∀ wx, RefAt wx r S → Calls Try.prog 15 #[.pointer (some ⟨r.m, 0, none⟩), .int .i64 x.p, .string (strOfNums (ofB x.c))] wx (RefPost r wx (.int .i64 c) S')) ∧ Bnd S' (j + 1) :=
                    ⟨writeS S x.p (ofB x.c), writeC S x.p 24, fun wx g h hg hb => dwrite_any h.hd x.p _ 24 24 (g + 1) (ofB x.c) HPB.out.1 HPB.out.2 (by unfold maxLen; omega) (fun w' hk => Sl.of_blk0 (Blk.kept hb hk hg) (ofB_len _) (by omega)) (ofB_bytes HX.out.cB) (fun k hk => Nat.lt_of_lt_of_le (HGL.out k hk) h.hk.size) HNB.out HBB.out,
                      fun wx h => by have := rwrite_any h x.p (ofB x.c) HPB.out.1 HPB.out.2 (by rw [ofB_len]; unfold maxLen; omega) HNB.out HBB.out; rw [ofB_len] at this; exact this, HB.out.write x.p _⟩
                  have CD := Lib.hid hCD
                  have CR := Lib.hid hCR
                  have HB' := Lib.hid hB'
                  have CB := Lib.hid (bytes_any x.c)
                  have hcc : (c != c) = false := by simp
                  have u1 := up_cell (F := fun k => Own d D W k ∨ POwn r k) (w := wa.drew) o1 (fun h => h.elim HGB.out.1 HGB.out.2)
                  have u3 := up_cell (F := fun k => Own d D W k ∨ POwn r k) (w := wa.drew) o3 (fun h => h.elim HGB.out.1 HGB.out.2)
                  clear hCD hCR hB' o1 o2 o3 o4
                  rcases (show K = 2 ∨ K = 3 by omega) with rfl | rfl
                  all_goals
                    clear h01 h23 hK0 hK8
                    go_upto_region 25 with (fail)
                    refine wp_region_stages (Kept fun k => Own d D W k ∨ POwn r k) (kept_refl _) (kept_trans _) [([0, 1, 2, 3, 4, 7, 8, 9, 10, 11], 5), ([], 6), ([], 12), ([13], 14)] [15] (by kernel_rfl) (by kernel_rfl) ?_
                    simp only [selSt, sel, List.map_cons, List.map_nil, List.getD_cons_succ, List.getD_cons_zero]
                    refine st_cons fun K1 hK1 => ?_
                    repeat (go_big_quiet_step (fail))
                    refine wpQuiet_nil ?_
                    go_wp2_with (go_at_call 14; (with_reducible refine (CB.out _).mono ?_); rintro e w4 ⟨g4, rfl, hg, hblk, hgr⟩; have HB4 := Lib.hid hblk; have HG4 := Lib.hid hgr; have HGG4 := Lib.hid hg; clear hblk hgr hg)
                    refine norm_up (hK1 _ _ (Grow.kept HG4.out) (st_cons fun K2 hK2 => wpQuiet_nil ?_))
                    clear hK1 K1 u1 u3
                    have HT4 : Hid (Two w2 d D W G r S S w4) := HTA.out.grow ((Kept.drew' wa).trans HG4.out)
                    have HO4 : Hid (¬ Own d D W g4) := fun h => by
                      have h1 := HTA.out.hd.lt
                      have h2 : wa.heap.size ≤ g4 := HGG4.out
                      rcases h with h | h | h <;> omega
                    go_wp2_with (go_at_call 13; (with_reducible refine (CD.out _ _ HT4.out HO4.out HB4.out).mono ?_); rintro e w5 ⟨rfl, hdev, hk⟩; have HT5 := Lib.hid (Two.dev HT4.out hdev hk HAP.out); have HK5 := Lib.hid hk; clear hdev hk)
                    refine norm_up (hK2 _ _ (HK5.out.mono fun _ _ h => .inl h) (st_cons fun K3 hK3 => wpQuiet_nil ?_))
                    clear hK2 K2
                    go_wp2_with (go_at_call 14; (with_reducible refine (CB.out _).mono ?_); rintro e w6 ⟨g6, rfl, hg, hblk, hgr⟩; have HB6 := Lib.hid hblk; have HG6 := Lib.hid hgr; have HGG6 := Lib.hid hg; clear hblk hgr hg)
                    refine norm_up (hK3 _ _ (Grow.kept HG6.out) (st_cons fun K4 hK4 => ?_))
                    clear hK3 K3
                    have HT6 : Hid (Two w2 d D W G r S' S w6) := HT5.out.grow HG6.out
                    have HO6 : Hid (¬ (Own d D W g6 ∨ POwn r g6)) := fun h => by
                      have h1 := HT5.out.hd.lt
                      have h2 : w5.heap.size ≤ g6 := HGG6.out
                      rcases h with (h | h | h) | h
                      · omega
                      · omega
                      · omega
                      · have := HT5.out.hr.lt _ h
                        omega
                    have s6 := up_run (F := fun k => Own d D W k ∨ POwn r k) (P := Try.prog) (w := w6) fun w' hk => (Sl.of_blk0 (B := w'.heap.size) (Blk.kept HB6.out hk HO6.out) (ofB_len _) (Blk.lt (Blk.kept HB6.out hk HO6.out))).str 28 9 5 Try.underlying28 Try.underlying5 Try.underlying9 24
                    repeat (go_big_quiet_step (fail))
                    refine wpQuiet_nil ?_
                    clear s6
                    go_wp2_with (go_at_call 15; (with_reducible refine (CR.out _ HT6.out.hr).mono ?_); rintro e w7 ⟨rfl, hr7, hk7⟩; have HT7 := Lib.hid (Two.ref HT6.out hr7 hk7 HAP.out HGP.out); have HK7 := Lib.hid hk7; clear hr7 hk7)
                    refine norm_up (hK4 _ _ (HK7.out.mono fun _ _ h => .inr h) (st_nil fun K5 hK5 => ?_))
                    clear hK4 K4
                    repeat (go_big_quiet_step (fail))
                    refine wpQuiet_nil (hK5 _ ?_)
                    clear hK5 K5
                    go_wp2
                    go_meet
                    exact ⟨_, HT7.out, HB'.out⟩
                · by_cases h4 : K ≤ 4
                  · obtain rfl : K = 4 := by omega
                    obtain ⟨S', c, hCD, hCR, hB'⟩ : ∃ (S' : Dv) (c : Int), (∀ wx, Two w2 d D W G r S S wx → Calls Try.prog 13 #[.pointer (some ⟨d, 0, none⟩), .int .i64 x.p, .slice x.A x.len x.cap] wx (DevPost d D W G wx (.int .i64 c) S')) ∧ (∀ wx, Two w2 d D W G r S' S wx → Calls Try.prog 15 #[.pointer (some ⟨r.m, 0, none⟩), .int .i64 x.p, .string (strOfNums x.zs)] wx (RefPost r wx (.int .i64 c) S')) ∧ Bnd S' (j + 1) :=
                      ⟨writeS S x.p x.zs, writeC S x.p x.len, fun wx h => dwrite_any h.hd x.p x.A x.len x.cap w.heap.size x.zs HPB.out.1 HPB.out.2 (Nat.le_trans HX.out.lenB.1 HX.out.lenB.2) (fun w' hk => HSLX.out _ (h.hk.then hk (fun _ _ x => .inl x))) HX.out.zB (fun k hk => Nat.lt_of_lt_of_le (HGL.out k hk) h.hk.size) HNB.out HBB.out,
                        fun wx h => by have := rwrite_any h.hr x.p x.zs HPB.out.1 HPB.out.2 (by rw [HX.out.sl.1]; exact Nat.le_trans HX.out.lenB.1 HX.out.lenB.2) HNB.out HBB.out; rw [HX.out.sl.1] at this; exact this, HB.out.write x.p _⟩
                    have CD := Lib.hid hCD
                    have CR := Lib.hid hCR
                    have HB' := Lib.hid hB'
                    have hcc : (c != c) = false := by simp
                    have u1 := up_cell (F := fun k => Own d D W k ∨ POwn r k) (w := wa.drew) o1 (fun h => h.elim HGB.out.1 HGB.out.2)
                    have u4 := up_cell (F := fun k => Own d D W k ∨ POwn r k) (w := wa.drew) o4 (fun h => h.elim HGB.out.1 HGB.out.2)
                    have s4 := up_run (F := fun k => Own d D W k ∨ POwn r k) (P := Try.prog) (w := wa.drew) fun w' hk => (HSB.out HTA.out ((Kept.drew' wa).trans hk) (fun _ x => x)).str 28 9 5 Try.underlying28 Try.underlying5 Try.underlying9 x.cap
                    have HTD : Hid (Two w2 d D W G r S S wa.drew) := HTA.out.grow (Kept.drew' wa)
                    clear hCD hCR hB' o1 o2 o3 o4 hK0 hK8 h01 h23 h4
                    go_upto_region 28 with (fail)
                    refine wp_region_stages (Kept fun k => Own d D W k ∨ POwn r k) (kept_refl _) (kept_trans _) [([0, 1, 2, 3, 4, 6, 7, 8, 9, 10, 11], 5), ([], 12)] [13] (by kernel_rfl) (by kernel_rfl) ?_
                    simp only [selSt, sel, List.map_cons, List.map_nil, List.getD_cons_succ, List.getD_cons_zero]
                    refine st_cons fun K1 hK1 => ?_
                    repeat (go_big_quiet_step (fail))
                    refine wpQuiet_nil ?_
                    clear u1 u4 s4
                    go_wp2_with (go_at_call 13; (with_reducible refine (CD.out _ HTD.out).mono ?_); rintro e w5 ⟨rfl, hdev, hk⟩; have HT5 := Lib.hid (Two.dev HTD.out hdev hk HAP.out); have HK5 := Lib.hid hk; clear hdev hk)
                    refine norm_up (hK1 _ _ (HK5.out.mono fun _ _ h => .inl h) (st_cons fun K4 hK4 => wpQuiet_nil ?_))
                    clear hK1 K1
                    go_wp2_with (go_at_call 15; (with_reducible refine (CR.out _ HT5.out).mono ?_); rintro e w7 ⟨rfl, hr7, hk7⟩; have HT7 := Lib.hid (Two.ref HT5.out hr7 hk7 HAP.out HGP.out); have HK7 := Lib.hid hk7; clear hr7 hk7)
                    refine norm_up (hK4 _ _ (HK7.out.mono fun _ _ h => .inr h) (st_nil fun K5 hK5 => ?_))
                    clear hK4 K4
                    repeat (go_big_quiet_step (fail))
                    refine wpQuiet_nil (hK5 _ ?_)
                    clear hK5 K5
                    go_wp2
                    go_meet
                    exact ⟨_, HT7.out, HB'.out⟩
                  · by_cases h5 : K ≤ 5
                    · obtain rfl : K = 5 := by omega
                      obtain ⟨S', c, hCD, hCR, hB'⟩ : ∃ (S' : Dv) (c : Int), (∀ wx, Two w2 d D W G r S S wx → Calls Try.prog 16 #[.pointer (some ⟨d, 0, none⟩)] wx (DevPost d D W G wx (.int .i64 c) S')) ∧ (∀ wx, RefAt wx r S → Calls Try.prog 17 #[.pointer (some ⟨r.m, 0, none⟩)] wx (RefPost r wx (.int .i64 c) S')) ∧ Bnd S' (j + 1) :=
                        ⟨_, _, fun wx h => dsync_any h.hd HNB.out HBB.out, fun wx h => rsync_any h HNB.out HBB.out, HB.out.sync⟩
                      have CD := Lib.hid hCD
                      have CR := Lib.hid hCR
                      have HB' := Lib.hid hB'
                      have hcc : (c != c) = false := by simp
                      clear hCD hCR hB' o1 o2 o3 o4 h01 h23 h4 h5 hK0 hK8
                      go_wp2_with (first
                        | (go_at_call 16; (with_reducible refine (CD.out _ HTA.out).mono ?_); rintro e w4 ⟨rfl, hdev, hk⟩; have HT4 := Lib.hid (Two.dev HTA.out hdev hk HAP.out); clear hdev hk)
                        | (go_at_call 17; (with_reducible refine (CR.out _ HT4.out.hr).mono ?_); rintro e w5 ⟨rfl, hr5, hk5⟩; have HT5 := Lib.hid (Two.ref HT4.out hr5 hk5 HAP.out HGP.out); clear hr5 hk5))
                      go_meet
                      exact ⟨_, HT5.out, HB'.out⟩
                    · by_cases h6 : K ≤ 6
                      · obtain rfl : K = 6 := by omega
                        obtain ⟨S', c, hCD, hCR, hB'⟩ : ∃ (S' : Dv) (c : Bool), (∀ wx, Two w2 d D W G r S S wx → Calls Try.prog 18 #[.pointer (some ⟨d, 0, none⟩), .int .i64 x.n] wx (DevPost d D W G wx (.bool c) S')) ∧ (∀ wx, Two w2 d D W G r S' S wx → Calls Try.prog 19 #[.pointer (some ⟨r.m, 0, none⟩), .int .i64 x.n] wx (RefPost r wx (.bool c) S')) ∧ Bnd S' (j + 1) :=
                          ⟨failS S x.n, failB x.n, fun wx h => fail_any h.hd x.n, fun wx h => rfail_any h.hr x.n, HB.out.fail x.n⟩
                        have CD := Lib.hid hCD
                        have CR := Lib.hid hCR
                        have HB' := Lib.hid hB'
                        have hcc : (c != c) = false := by simp
                        have u2 := up_cell (F := fun k => Own d D W k ∨ POwn r k) (w := wa.drew) o2 (fun h => h.elim HGB.out.1 HGB.out.2)
                        have HTD : Hid (Two w2 d D W G r S S wa.drew) := HTA.out.grow (Kept.drew' wa)
                        clear hCD hCR hB' o1 o2 o3 o4 hK0 hK8 h01 h23 h4 h5 h6
                        go_upto_region 34 with (fail)
                        refine wp_region_stages (Kept fun k => Own d D W k ∨ POwn r k) (kept_refl _) (kept_trans _) [([0, 1, 2, 4, 5, 6], 3), ([], 7)] [8] (by kernel_rfl) (by kernel_rfl) ?_
                        simp only [selSt, sel, List.map_cons, List.map_nil, List.getD_cons_succ, List.getD_cons_zero]
                        refine st_cons fun K1 hK1 => ?_
                        repeat (go_big_quiet_step (fail))
                        refine wpQuiet_nil ?_
                        clear u2
                        go_wp2_with (go_at_call 18; (with_reducible refine (CD.out _ HTD.out).mono ?_); rintro e w5 ⟨rfl, hdev, hk⟩; have HT5 := Lib.hid (Two.dev HTD.out hdev hk HAP.out); have HK5 := Lib.hid hk; clear hdev hk)
                        refine norm_up (hK1 _ _ (HK5.out.mono fun _ _ h => .inl h) (st_cons fun K4 hK4 => wpQuiet_nil ?_))
                        clear hK1 K1
                        go_wp2_with (go_at_call 19; (with_reducible refine (CR.out _ HT5.out).mono ?_); rintro e w7 ⟨rfl, hr7, hk7⟩; have HT7 := Lib.hid (Two.ref HT5.out hr7 hk7 HAP.out HGP.out); have HK7 := Lib.hid hk7; clear hr7 hk7)
                        refine norm_up (hK4 _ _ (HK7.out.mono fun _ _ h => .inr h) (st_nil fun K5 hK5 => ?_))
                        clear hK4 K4
                        repeat (go_big_quiet_step (fail))
                        refine wpQuiet_nil (hK5 _ ?_)
                        clear hK5 K5
                        go_wp2
                        go_meet
                        exact ⟨_, HT7.out, HB'.out⟩
                      · obtain rfl : K = 7 := by omega
                        obtain ⟨S', c, hCD, hCR, hB'⟩ : ∃ (S' : Dv) (c : Bool), (∀ wx, Two w2 d D W G r S S wx → Calls Try.prog 20 #[.pointer (some ⟨d, 0, none⟩), .slice x.A x.len x.cap] wx (DevPost d D W G wx (.bool c) S')) ∧ (∀ wx, Two w2 d D W G r S' S wx → Calls Try.prog 21 #[.pointer (some ⟨r.m, 0, none⟩), .slice x.A x.len x.cap] wx (RefPost r wx (.bool c) S')) ∧ Bnd S' (j + 1) :=
                          ⟨crashS S x.zs, !S.down, fun wx h => dcrash_any h.hd x.A x.len x.cap w.heap.size x.zs (fun w' hk => HSLX.out _ (h.hk.then hk (fun _ _ x => .inl x))) HX.out.zB (Nat.le_trans HX.out.lenB.1 HX.out.lenB.2) (fun k hk => Nat.lt_of_lt_of_le (HGL.out k hk) h.hk.size),
                            fun wx h => rcrash_any h.hr x.A x.len x.cap w.heap.size x.zs (fun w' hk => HSLX.out _ (h.hk.then hk (fun _ _ x => .inr x))) HX.out.zB (Nat.le_trans HX.out.lenB.1 HX.out.lenB.2), HB.out.crash x.zs⟩
                        have CD := Lib.hid hCD
                        have CR := Lib.hid hCR
                        have HB' := Lib.hid hB'
                        have hcc : (c != c) = false := by simp
                        have u4 := up_cell (F := fun k => Own d D W k ∨ POwn r k) (w := wa.drew) o4 (fun h => h.elim HGB.out.1 HGB.out.2)
                        have HTD : Hid (Two w2 d D W G r S S wa.drew) := HTA.out.grow (Kept.drew' wa)
                        clear hCD hCR hB' o1 o2 o3 o4 hK0 hK8 h01 h23 h4 h5 h6
                        go_upto_region 15 with (fail)
                        refine wp_region_stages (Kept fun k => Own d D W k ∨ POwn r k) (kept_refl _) (kept_trans _) [([0, 1, 2, 4, 5, 6], 3), ([], 7)] [8] (by kernel_rfl) (by kernel_rfl) ?_
                        simp only [selSt, sel, List.map_cons, List.map_nil, List.getD_cons_succ, List.getD_cons_zero]
                        refine st_cons fun K1 hK1 => ?_
                        repeat (go_big_quiet_step (fail))
                        refine wpQuiet_nil ?_
                        clear u4
                        go_wp2_with (go_at_call 20; (with_reducible refine (CD.out _ HTD.out).mono ?_); rintro e w5 ⟨rfl, hdev, hk⟩; have HT5 := Lib.hid (Two.dev HTD.out hdev hk HAP.out); have HK5 := Lib.hid hk; clear hdev hk)
                        refine norm_up (hK1 _ _ (HK5.out.mono fun _ _ h => .inl h) (st_cons fun K4 hK4 => wpQuiet_nil ?_))
                        clear hK1 K1
                        go_wp2_with (go_at_call 21; (with_reducible refine (CR.out _ HT5.out).mono ?_); rintro e w7 ⟨rfl, hr7, hk7⟩; have HT7 := Lib.hid (Two.ref HT5.out hr7 hk7 HAP.out HGP.out); have HK7 := Lib.hid hk7; clear hr7 hk7)
                        refine norm_up (hK4 _ _ (HK7.out.mono fun _ _ h => .inr h) (st_nil fun K5 hK5 => ?_))
                        clear hK4 K4
                        repeat (go_big_quiet_step (fail))
                        refine wpQuiet_nil (hK5 _ ?_)
                        clear hK5 K5
                        go_wp2
                        go_meet
                        exact ⟨_, HT7.out, HB'.out⟩
            case rest =>
              obtain ⟨S1, htw, hbn⟩ := hcut
              have HT1 := Lib.hid htw
              have HB1 := Lib.hid hbn
              clear htw hbn o1 o2 o3 o4 hK0 hK8
              go_upto_region 36 with (fail)
              obtain ⟨t1, h3, _⟩ := HT1.out.hr
              have HROW := Lib.hid h3
              have hN48 : S1.N ≤ 48 := h3.size.2
              have HN48 := Lib.hid hN48
              have u0 := up_cell (F := fun _ => False) (w := wc.drew) h3.c0 id
              have hnn : ((S1.n : Int) != (S1.n : Int)) = false := by simp
              clear h3 hN48
              refine wp_region_stages Grow (kept_refl _) (kept_trans _) [([0, 2, 3, 4, 5], 1), ([], 6), ([7, 8, 9, 11], 10), ([], 12), ([], 13), ([14, 15, 16, 17, 19, 20, 21, 22], 18)] [23, 24] (by kernel_rfl) (by kernel_rfl) ?_
              simp only [selSt, sel, List.map_cons, List.map_nil, List.getD_cons_succ, List.getD_cons_zero]
              refine st_cons fun K1 hK1 => ?_
              repeat (go_big_quiet_step (fail))
              refine wpQuiet_nil ?_
              clear u0
              go_wp2_with (go_at_call 23; (with_reducible refine (durable_any HT1.out.hd.drew).mono ?_); rintro e v1 ⟨g1, cg, f1, rfl, _, hrow, hfr, hgr⟩; have HR1 := Lib.hid hrow; have HF1 := Lib.hid hfr; have HV1 := Lib.hid hgr; clear hrow hfr hgr)
              refine norm_up (hK1 _ _ HV1.out (st_cons fun K2 hK2 => wpQuiet_nil ?_))
              clear hK1 K1
              have HW1 : Hid (Grow wc v1) := (Kept.drew' wc).trans HV1.out
              go_wp2_with (go_at_call 22; (with_reducible refine (texts_true g1 r.A S1.N cg r.cA f1 S1.dur HN48.out HR1.out HF1.out (HROW.out.safe.grow HW1.out)).mono ?_); rintro e v2 ⟨rfl, hgr⟩; have HV2 := Lib.hid hgr; clear hgr)
              refine norm_up (hK2 _ _ HV2.out (st_cons fun K3 hK3 => ?_))
              clear hK2 K2
              have HW2 : Hid (Grow wc v2) := HW1.out.trans HV2.out
              repeat (go_big_quiet_step (fail))
              refine wpQuiet_nil ?_
              go_wp2_with (go_at_call 25; (with_reducible refine (waits_any (HT1.out.hd.grow HW2.out)).mono ?_); rintro e v3 ⟨A3, n3, cz3, rfl, hsl, _, hgr⟩; have HS3 := Lib.hid hsl; have HV3 := Lib.hid hgr; clear hsl hgr)
              refine norm_up (hK3 _ _ HV3.out (st_cons fun K4 hK4 => wpQuiet_nil ?_))
              clear hK3 K3
              have HW3 : Hid (Grow wc v3) := HW2.out.trans HV3.out
              go_wp2_with (go_at_call 26; (with_reducible refine (rwaits_any (HT1.out.hr.grow HW3.out)).mono ?_); rintro e v4 ⟨A4, n4, cz4, rfl, hsl, _, hgr⟩; have HS4 := Lib.hid hsl; have HV4 := Lib.hid hgr; clear hsl hgr)
              refine norm_up (hK4 _ _ HV4.out (st_cons fun K5 hK5 => wpQuiet_nil ?_))
              clear hK4 K4
              have HW4 : Hid (Grow wc v4) := HW3.out.trans HV4.out
              obtain rfl : n4 = n3 := HS4.out.1.symm.trans HS3.out.1
              have HL4 : Hid (n4 ≤ 48) := by
                have h1 := HS4.out.1
                have h2 := waitL_le S1 S1.N
                have h3 := HN48.out
                show n4 ≤ 48
                omega
              go_wp2_with (go_at_call 24; (with_reducible refine (ints_true A3 A4 n4 cz3 cz4 _ _ _ HL4.out (Sl.kept HS3.out HV4.out (Nat.le_refl _) (fun _ _ x => x)) HS4.out).mono ?_); rintro e v5 ⟨rfl, hgr⟩; have HV5 := Lib.hid hgr; clear hgr)
              refine norm_up (hK5 _ _ HV5.out (st_cons fun K6 hK6 => ?_))
              clear hK5 K5
              have HW5 : Hid (Grow wc v5) := HW4.out.trans HV5.out
              have u3 := up_cell (F := fun _ => False) (w := v5) (HROW.out.grow HW5.out).c3 id
              repeat (go_big_quiet_step (fail))
              refine wpQuiet_nil ?_
              clear u3
              go_wp2_with (go_at_call 27; (with_reducible refine (accesses_any (HT1.out.hd.grow HW5.out)).mono ?_); rintro e v6 ⟨rfl, rfl⟩)
              refine norm_up (hK6 _ _ (kept_refl _ _) (st_nil fun K7 hK7 => ?_))
              clear hK6 K6
              repeat (go_big_quiet_step (fail))
              refine wpQuiet_nil (hK7 _ ?_)
              clear hK7 K7
              go_wp2
              go_roundg (len1 - (j + 1))
              case measure => have := HG.out; omega
              case rel => exact ⟨j + 1, by omega, by go_num, S1, HT1.out.grow HW5.out, HB1.out⟩
        · have hjM : j = len1 := by have := HG.out; omega
          subst hjM
          have HFIN : Hid (Below w.heap.size w wr) := Kept.below ((Grow.kept HGG.out).then HT.out.hk (fun _ _ x => x)) (fun k h => Nat.le_of_not_lt fun hk => HOLDW.out k hk h) (Nat.le_refl _)
          clear hj HOPS
          go_wp2_with (go_at_call 10; (with_reducible refine (told_any _).mono ?_); rintro e w3 ⟨rfl, hge⟩; have HGE := Lib.hid hge; clear hge)
          go_ret
          exact ⟨rfl, HFIN.out.trans (HGE.out.below.mono HFIN.out.size)⟩
  · go_enter Try.func3, Try.ntmps3
    have CN := Lib.hid fun (wx : World) => new_bad (w := wx) a0 hpg
    have CR := Lib.hid fun (wx : World) => rnew_bad (w := wx) a0 hpg
    clear hpg
    go_wp2_with (first
      | (go_at_call 8; (with_reducible refine (CN.out _).mono ?_); rintro e w' ⟨rfl, rfl⟩)
      | (go_at_call 9; (with_reducible refine (CR.out _).mono ?_); rintro e w' ⟨rfl, rfl⟩)
      | (go_at_call 10; (with_reducible refine (told_any _).mono ?_); rintro e w3 ⟨rfl, hge⟩; have HGE := Lib.hid hge; clear hge))
    go_ret
    exact ⟨rfl, Grow.below HGE.out⟩

/-! ### THE ROW's STEP: WRITTEN OUT: LEAVE IT -/
set_option maxRecDepth 100000 in
theorem lifted (os : Os) (started : os.Started) (H : Type) (enc : TypeId × Value → H) :
    ReturnsInHanded {} Try.checked os 3 .any (Rows.diskPlaysSpec.pre6 enc Try.prog Try.f3 Rows.diskPlaysRow.domain false) (Rows.diskPlaysSpec.post enc Try.prog Try.f3 false true false false) := by
  refine returnsInHanded_of_change (C := Try.checked) own started (by kernel_rfl) Try.func3
    (ChangeSpec.witness6 (enc := enc) (C := Try.checked) false ⟨#[], #[.int .i64 0, .slice none 0 0], []⟩ 8 (by kernel_rfl) (by kernel_rfl) (by kernel_rfl) (by kernel_rfl)) ?_
  intro W base args ds gs before hval0 hW hcnd _
  have hval : ∀ (j : Nat) t v, Try.f3.params[j]? = some t → args[j]? = some v → Value.okWide Try.prog W .any base t v := hval0
  have hW' := hW
  obtain ⟨p, q, hA0, hV, rfl, hfz, hnd⟩ := hW
  have hA : DataW.TrodAll enc Try.prog W 0 (fun _ => true) true Try.f3.params.toList args.toList ds p := hA0
  rw [Try.params3] at hA hval
  obtain ⟨v0, vs0, d0, ds0, p0, q0, hargs, rfl, rfl, h0, r0⟩ := trodAll_cons hA
  obtain ⟨v1, vs1, d1, ds1, p1, q1, rfl, rfl, rfl, h1, r1⟩ := trodAll_cons r0
  obtain ⟨rfl, rfl, rfl⟩ := trodAll_nil r1
  obtain rfl : args = #[v0, v1] := by cases args; simp_all
  obtain ⟨rfl, rfl⟩ := trodVars_none hV
  obtain ⟨a0, rfl, rfl, rfl, w0⟩ := open_int Try.underlying3 (hval 0 3 v0 rfl rfl) h0
  obtain ⟨a1, len1, cap1, rfl⟩ := okWide_slice Try.underlying22 (hval 1 22 v1 rfl rfl)
  have k1 := h1
  have lt1 : ∀ x ∈ p1, x.block < W.heap.size := by obtain ⟨m, hm⟩ := k1; exact DataW.trod_lt m _ _ _ hm
  have w1 : OpsAt W a1 len1 cap1 := by obtain ⟨fuel, hf⟩ := h1; exact ops_open hf
  clear hA0 hval0
  refine (walk a0 a1 len1 cap1 W w0 w1).mono fun e W' ⟨he, bel⟩ => ?_
  subst he
  exact ⟨_, rfl, _, _, _, [], _, [], hW', trodAll_mk1 (shut_bool Try.underlying4 _), (trodAll_cons_mk (shut_int Try.underlying3 w0) (trodAll_cons_mk (Below.trod laidOut (by kernel_rfl) (of_decide_eq_true (by kernel_rfl)) k1 bel lt1) trodAll_mk0)), rfl, bel.frame _, fun h => by cases h⟩

theorem over : Rows.diskPlaysRow.holds Try.pinned (OpenSpec.ofChange Rows.diskPlaysSpec) :=
  OpenClaim.holds_of_wide 3 Try.f3 rfl rfl rfl rfl rfl rfl rfl ⟨rfl, rfl, rfl, rfl, rfl⟩ rfl rfl rfl rfl rfl (by kernel_rfl) Try.func3 (by kernel_rfl)
    (of_decide_eq_true (by kernel_rfl)) (by unfold Func.isWrapper; first | (rw [if_pos (by decide +kernel)]; kernel_rfl) | (rw [if_neg (by decide +kernel)]; exact ⟨rfl, rfl⟩))
    (fun os started H enc _ => lifted os started H enc)

/-- ████ THE STATEMENT ████ -/
theorem proved : Rows.DiskPlaysSaid := over
#print axioms proved
end Go.Proofs.Ytfjcbcpfhjaeeaa.diskPlays
