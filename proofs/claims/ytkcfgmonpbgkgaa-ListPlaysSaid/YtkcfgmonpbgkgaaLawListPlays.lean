/-
  For every input the call of lavabolaw4.ListPlays returns true and leaves its arguments as they were; no condition.
-/
import Derived.Test.YtkcfgmonpbgkgaaTold4
import Derived.Test.YtkcfgmonpbgkgaaListOps
import Derived.Test.YtkcfgmonpbgkgaaInts
import Derived.Test.YtkcfgmonpbgkgaaListRefMore
import Derived.Test.YtkcfgmonpbgkgaaRows
import Derived.WalkKit
import Derived.ProofKit
import Derived.OpenShut
import Derived.ShutString
import Derived.ChangeOld
import Derived.Below
namespace Go.Proofs.Ytkcfgmonpbgkgaa.listPlays
open Go.ChangeShapes Go.WideShapes Go.ChangeAt Go.RowKit
open Go.ChangeMaps (open_string shut_string)
open Go.Proofs.Ytkcfgmonpbgkgaa.Mem Go.Proofs.Ytkcfgmonpbgkgaa.Blk Go.Proofs.Ytkcfgmonpbgkgaa.ListM Go.Proofs.Ytkcfgmonpbgkgaa.Rowed Go.Proofs.Ytkcfgmonpbgkgaa.ListC Go.Proofs.Ytkcfgmonpbgkgaa.ListD Go.Proofs.Ytkcfgmonpbgkgaa.ListR Go.Proofs.Ytkcfgmonpbgkgaa.ListS Go.Proofs.Ytkcfgmonpbgkgaa.ListT Go.Proofs.Ytkcfgmonpbgkgaa.IntsC Go.Proofs.Ytkcfgmonpbgkgaa.Told4 Go.Proofs.Ytkcfgmonpbgkgaa.Ops Go.Proofs.Ytkcfgmonpbgkgaa.Stages
set_option linter.unusedVariables false

theorem own : ownKnob Try.prog.godebug = none := by kernel_rfl
theorem laidOut : laidOutB Try.prog = true := by kernel_rfl

/-- WHAT THE WALK IS TOLD OF A SLICE OF INTEGERS THAT CAME IN: it is nil; or it leads to a row of 'cap' cells, the numbers 'zs' (the first 'len' are its elements, the rest its spare room), each fitting its kind. -/
def IsRow (k : IntKind) (w : World) (a : Option Addr) (len cap : Nat) (zs : List Int) : Prop :=
  (a = none ∧ len = 0 ∧ cap = 0 ∧ zs = []) ∨
  ∃ x, a = some x ∧ len ≤ cap ∧ cap ≤ maxLen ∧ zs.length = cap ∧ (∀ i, i < zs.length → w.cell? (x.add i) = some (.int k (zs.getD i 0))) ∧ ∀ n ∈ zs, (Lit.int k n).wf = true

theorem kind6 (a : Int) : ∃ (m K : Int), a.tmod 6 = m ∧ -6 < m ∧ m < 6 ∧ (m + 6).tmod 6 = K ∧ 0 ≤ K ∧ K < 6 := by
  have key : ∀ b : Int, 0 ≤ b → 0 ≤ b.tmod 6 ∧ b.tmod 6 < 6 := fun b hb => by
    rw [IntWalk.rem_in _ _ hb]
    omega
  have hb : -6 < a.tmod 6 ∧ a.tmod 6 < 6 := by
    by_cases h : 0 ≤ a
    · have := key a h
      omega
    · have := key (-a) (by omega)
      rw [Int.neg_tmod] at this
      omega
  obtain ⟨h0, h8⟩ := key (a.tmod 6 + 6) (by omega)
  exact ⟨_, _, rfl, hb.1, hb.2, rfl, h0, h8⟩
/-- Both lists: who is in is the same. -/
structure Two (w2 : World) (d D m n : Nat) (zs : List Nat) (wx : World) : Prop where
  hl : ListAt wx d D n zs
  hr : RefAt wx m n (Own d D) zs
  hk : Kept (fun k => Own d D k ∨ k = m) w2 wx
theorem Two.grow {w2 : World} {d D m n : Nat} {zs : List Nat} {wx wy : World} (h : Two w2 d D m n zs wx) (hg : Grow wx wy) : Two w2 d D m n zs wy := ⟨h.hl.grow hg, h.hr.grow hg, h.hk.trans (Grow.kept hg)⟩
def PInv (w2 : World) (d D m n : Nat) (wx : World) : Prop := ∃ zs, Two w2 d D m n zs wx
def PLoop (w2 : World) (d D m n M g : Nat) (i : Value) (wx : World) : Prop := ∃ j : Nat, j + g = M ∧ i = .int .i64 (j : Int) ∧ PInv w2 d D m n wx

/-- Whether a number is in, as the statement asks it of the document's list. -/
theorem has_said {us : List Nat} (hn : us.Nodup) (k : Int) : (us.length = 0 ∧ okO us k = false) ∨ (0 < us.length ∧ 0 ≤ nxtI us k ∧ okO us k = true) ∨ (0 < us.length ∧ nxtI us k < 0 ∧ last us = k ∧ okO us k = true) ∨ (0 < us.length ∧ nxtI us k < 0 ∧ last us ≠ k ∧ okO us k = false) := by
  rcases Nat.eq_zero_or_pos us.length with h0 | h0
  · have : us = [] := List.eq_nil_of_length_eq_zero h0
    subst this
    exact .inl ⟨rfl, by simp [okO]⟩
  · have hla : ∃ x, us[us.length - 1]? = some x ∧ last us = ((x : Nat) : Int) ∧ x ∈ us := by
      rcases List.eq_nil_or_concat us with rfl | ⟨l, x, rfl⟩
      · simp at h0
      · exact ⟨x, by simp, by unfold last; simp, by simp⟩
    obtain ⟨x, hx, hl, hxm⟩ := hla
    by_cases hk : 0 ≤ k
    · obtain ⟨K, rfl⟩ := Int.eq_ofNat_of_zero_le hk
      by_cases hm : K ∈ us
      · have ho : okO us (K : Int) = true := by simp [okO, hm]
        have hi : us.idxOf K < us.length := List.idxOf_lt_length_iff.2 hm
        have hg : us[us.idxOf K]? = some K := by rw [List.getElem?_eq_getElem hi, List.getElem_idxOf]
        unfold nxtI nxt
        rw [if_pos hk, Int.toNat_natCast]
        by_cases h1 : us.idxOf K + 1 < us.length
        · rw [if_pos h1]
          exact .inr (.inl ⟨h0, by omega, ho⟩)
        · rw [if_neg h1]
          refine .inr (.inr (.inl ⟨h0, by omega, ?_, ho⟩))
          have e : us.length - 1 = us.idxOf K := by omega
          rw [e, hg] at hx
          injection hx with hx
          rw [hl, hx]
      · have ho : okO us (K : Int) = false := by simp [okO, hm]
        have hnx : nxtI us (K : Int) = -1 := by
          unfold nxtI nxt
          rw [if_pos hk, Int.toNat_natCast, List.idxOf_eq_length hm, if_neg (by omega)]
        rw [hnx]
        refine .inr (.inr (.inr ⟨h0, by omega, fun e => ?_, ho⟩))
        rw [hl] at e
        have : x = K := by omega
        exact hm (this ▸ hxm)
    · have ho : okO us k = false := by simp [okO, hk]
      have hnx : nxtI us k = -1 := by unfold nxtI; rw [if_neg hk]
      rw [hnx]
      exact .inr (.inr (.inr ⟨h0, by omega, by omega, ho⟩))

/-! ### STEP 1: THE WALK: the Go text returns true, AND WRITES NOTHING THAT WAS THERE: 'Below w.heap.size w w'' (Derived/Below.lean: '.refl', '.alloc', '.drew', '.setCell' at a new block, '.trans'). Open each 'IsRow' by 'rcases' AHEAD of 'go_enter'; part every test ahead of the walk. -/
set_option maxHeartbeats 8000000 in
set_option maxRecDepth 100000 in
theorem walk (a0 : Int) (a1 : Option Addr) (len1 cap1 : Nat) (w : World) (w0 : (Lit.int .i64 a0).wf = true) (w1 : OpsAt w a1 len1 cap1) :
    Calls Try.prog 3 #[.int .i64 a0, .slice a1 len1 cap1] w fun e w' => e = .returned (.bool true) ∧ Below w.heap.size w w' := by
  have k0 := bounds_i64 w0
  obtain ⟨hlc, hcm, hops⟩ := w1
  unfold maxLen at hcm
  have HOPS := Lib.hid hops
  clear hops
  by_cases hpg : 0 ≤ a0 ∧ a0 ≤ 1024
  · obtain ⟨hp1, hp2⟩ := hpg
    obtain ⟨N, rfl⟩ := Int.eq_ofNat_of_zero_le hp1
    have hN : N ≤ 1024 := by omega
    have hNz : (N : Int) ≤ 1024 := by omega
    clear k0 hp1 hp2
    go_enter Try.func3, Try.ntmps3
    by_cases h150 : 150 < len1
    · have h150z : (150 : Int) < (len1 : Int) := by omega
      go_wp2_with (first
        | (go_at_call 7; (with_reducible refine (new_good N hN).mono ?_); rintro e w1 ⟨d, D, rfl, hl, hd1, hd2, hg⟩; have H0 := Lib.hid hl; have HD := Lib.hid (And.intro hd1 hd2); have G0 := Lib.hid hg; clear hl hd1 hd2 hg)
        | (go_at_call 8; (with_reducible refine (told_any _).mono ?_); rintro e w3 ⟨rfl, hge⟩; have HGE := Lib.hid hge; clear hge))
      go_ret
      exact ⟨rfl, Grow.below (G0.out.trans HGE.out)⟩
    · have h150z : (len1 : Int) ≤ 150 := by omega
      go_upto_block 0 with (go_at_call 7; (with_reducible refine (new_good N hN).mono ?_); rintro e w1 ⟨d, D, rfl, hl, hd1, hd2, hg⟩; have H0 := Lib.hid hl; have HD := Lib.hid (And.intro hd1 hd2); have G0 := Lib.hid hg; clear hl hd1 hd2 hg)
      have HOLDW : Hid (∀ k, k < w.heap.size → ¬ (Own d D k ∨ k = w1.heap.size)) := fun k hk h => by
        have h1 := HD.out.1
        have h2 := HD.out.2
        have h3 := G0.out.size
        rcases h with (h | h) | h <;> omega
      have HMO : Hid (¬ Own d D w1.heap.size) := fun h => by
        have := H0.out.lt
        rcases h with h | h <;> omega
      have hga : Grow w1 (w1.alloc (.cells #[.int .i64 (N : Int), .slice none 0 0] 29)) := (Kept.refl _ _).alloc _
      have HTW : Hid (Two (w1.alloc (.cells #[.int .i64 (N : Int), .slice none 0 0] 29)) d D w1.heap.size N [] (w1.alloc (.cells #[.int .i64 (N : Int), .slice none 0 0] 29))) :=
        ⟨H0.out.grow hga, ⟨⟨none, 0, Row.of_blk (Blk.new w1 _ [.int .i64 (N : Int), .slice none 0 0]) rfl (fun i hi => by
          have : i = 0 ∨ i = 1 := by omega
          rcases this with rfl | rfl <;> rfl), Sl.nil _ _ _ _, ⟨Nat.le_refl _, Nat.zero_le _⟩, fun x hx => by cases hx⟩, HMO.out⟩, Kept.refl _ _⟩
      have HGG : Hid (Grow w (w1.alloc (.cells #[.int .i64 (N : Int), .slice none 0 0] 29))) := G0.out.trans hga
      clear hga G0 H0 HD
      generalize w1.alloc (.cells #[.int .i64 (N : Int), .slice none 0 0] 29) = w2 at HTW HGG ⊢
      generalize w1.heap.size = m at HTW HOLDW HMO ⊢
      go_wp2_with (fail)
      go_loopg [7] len1 (PLoop w2 d D m N len1)
      case atStart => exact ⟨0, by omega, rfl, [], HTW.out⟩
      case round =>
        obtain ⟨j, hg, rfl, zs, htw⟩ := hrel
        have HG := Lib.hid hg
        have HT := Lib.hid htw
        clear hg htw HTW
        by_cases hj : j < len1
        · have hjz : (j : Int) < (len1 : Int) := by omega
          obtain ⟨ab, ao, rfl, hab, hall⟩ := HOPS.out (by omega)
          obtain ⟨x, hx⟩ := hall j hj
          have hkx : ∀ o v, w.cell? ⟨ab, o, none⟩ = some v → wr.cell? ⟨ab, o, none⟩ = some v := fun o v h => HT.out.hk.cellN (HGG.out.cellN h id) (HOLDW.out ab hab)
          have ck := hkx _ _ hx.k
          have cp := hkx _ _ hx.p
          have kB := hx.kB
          have pB := hx.pB
          obtain ⟨km, K, hkm, hk1, hk2, hK, hK0, hK6⟩ := kind6 x.k
          clear hall hx hkx
          go_upto_block 2 with (fail)
          clear hK hkm hk1 hk2 ck cp kB hjz
          have HRG := Lib.hid HT.out.hl.ring
          have hsz := HT.out.hl.size
          have hlen : zs.length ≤ 1024 := Nat.le_trans HRG.out.2.2 hsz
          have HLEN := Lib.hid hlen
          have hlow : ∀ k, Own d D k → k < wr.heap.size := fun k h => by
            have := HT.out.hl.lt
            rcases h with h | h <;> omega
          have HLOW := Lib.hid hlow
          clear hsz hlen hlow
          generalize x.p = k at *
          go_cut [9, 10] from 52 to 75 (fun a b wx => ∃ bb, a = .bool bb ∧ b = .bool bb ∧ PInv w2 d D m N wx)
          case first =>
            have HAFT : Hid (∀ {wx wy wz : World} {us : List Nat}, ListAt wy d D N us → Kept (Own d D) wr wy → RefAt wz m N (Own d D) us → Kept (· = m) wy wz → PInv w2 d D m N wz) := fun {wx wy wz us} h1 h2 h3 h4 =>
              ⟨us, h1.kept h4 (fun k e h => HMO.out (e ▸ h)), h3, (HT.out.hk.trans (h2.mono fun _ _ h => .inl h)).trans (h4.mono fun _ _ h => .inr h)⟩
            by_cases h01 : K ≤ 1
            · have CD := Lib.hid (front_any HT.out.hl k)
              have CR : Hid (∀ wx, RefAt wx m N (Own d D) zs → wr.heap.size ≤ wx.heap.size → Calls Try.prog 10 #[.pointer (some ⟨m, 0, none⟩), .int .i64 k] wx (RPost m N (Own d D) wx (.bool (okF N zs k)) (frontL N zs k))) := fun wx h hs => rfront_any h k HRG.out.1 HLEN.out HRG.out.2.1 (fun k h => Nat.lt_of_lt_of_le (HLOW.out k h) hs)
              rcases (show K = 0 ∨ K = 1 by omega) with rfl | rfl
              all_goals
                clear h01 hK0 hK6
                go_wp2_with (first
                  | (go_at_call 9; (with_reducible refine CD.out.mono ?_); rintro e w4 ⟨rfl, hl, hk, _⟩; have HL4 := Lib.hid hl; have HK4 := Lib.hid hk; clear hl hk)
                  | (go_at_call 10; (with_reducible refine (CR.out _ (HT.out.hr.kept HK4.out (fun _ h => h)) HK4.out.size).mono ?_); rintro e w5 ⟨rfl, hr, hk⟩; have HR5 := Lib.hid hr; have HK5 := Lib.hid hk; clear hr hk))
                go_meet
                exact ⟨_, rfl, rfl, HAFT.out (wx := w4) HL4.out HK4.out HR5.out HK5.out⟩
            · by_cases h23 : K ≤ 3
              · have CD := Lib.hid (back_any HT.out.hl k)
                have CR : Hid (∀ wx, RefAt wx m N (Own d D) zs → wr.heap.size ≤ wx.heap.size → Calls Try.prog 12 #[.pointer (some ⟨m, 0, none⟩), .int .i64 k] wx (RPost m N (Own d D) wx (.bool (okF N zs k)) (backL N zs k))) := fun wx h hs => rback_any h k HRG.out.1 HLEN.out HRG.out.2.1 (fun k h => Nat.lt_of_lt_of_le (HLOW.out k h) hs)
                rcases (show K = 2 ∨ K = 3 by omega) with rfl | rfl
                all_goals
                  clear h01 h23 hK0 hK6
                  go_wp2_with (first
                    | (go_at_call 11; (with_reducible refine CD.out.mono ?_); rintro e w4 ⟨rfl, hl, hk, _⟩; have HL4 := Lib.hid hl; have HK4 := Lib.hid hk; clear hl hk)
                    | (go_at_call 12; (with_reducible refine (CR.out _ (HT.out.hr.kept HK4.out (fun _ h => h)) HK4.out.size).mono ?_); rintro e w5 ⟨rfl, hr, hk⟩; have HR5 := Lib.hid hr; have HK5 := Lib.hid hk; clear hr hk))
                  go_meet
                  exact ⟨_, rfl, rfl, HAFT.out (wx := w4) HL4.out HK4.out HR5.out HK5.out⟩
              · have CD := Lib.hid (out_any HT.out.hl k)
                have CR : Hid (∀ wx, RefAt wx m N (Own d D) zs → wr.heap.size ≤ wx.heap.size → Calls Try.prog 14 #[.pointer (some ⟨m, 0, none⟩), .int .i64 k] wx (RPost m N (Own d D) wx (.bool (okO zs k)) (outL zs k))) := fun wx h hs => rout_any h k HRG.out.1 HLEN.out (fun k h => Nat.lt_of_lt_of_le (HLOW.out k h) hs)
                rcases (show K = 4 ∨ K = 5 by omega) with rfl | rfl
                all_goals
                  clear h01 h23 hK0 hK6
                  go_wp2_with (first
                    | (go_at_call 13; (with_reducible refine CD.out.mono ?_); rintro e w4 ⟨rfl, hl, hk⟩; have HL4 := Lib.hid hl; have HK4 := Lib.hid hk; clear hl hk)
                    | (go_at_call 14; (with_reducible refine (CR.out _ (HT.out.hr.kept HK4.out (fun _ h => h)) HK4.out.size).mono ?_); rintro e w5 ⟨rfl, hr, hk⟩; have HR5 := Lib.hid hr; have HK5 := Lib.hid hk; clear hr hk))
                  go_meet
                  exact ⟨_, rfl, rfl, HAFT.out (wx := w4) HL4.out HK4.out HR5.out HK5.out⟩
          case rest =>
            obtain ⟨bb, rfl, rfl, us, htw⟩ := hcut
            have HT1 := Lib.hid htw
            have HJ := Lib.hid hj
            have hjz : (j : Int) < (len1 : Int) := by omega
            have hbb : (bb != bb) = false := by simp
            obtain ⟨A, c, hrow, hsl, _, _⟩ := htw.hr.hd
            have hcc := hrow.cell (i := 1) (by omega)
            simp only [Nat.one_ne_zero, if_false] at hcc
            have hrg := htw.hl.ring
            have hLn : us.length ≤ 1024 := Nat.le_trans hrg.2.2 htw.hl.size
            obtain ⟨L, fi, la, nx, ho, hL, hcase, hCs⟩ : ∃ (L : Nat) (fi la nx : Int) (ho : Bool), us.length = L ∧ ((L = 0 ∧ ho = false) ∨ (0 < L ∧ 0 ≤ nx ∧ ho = true) ∨ (0 < L ∧ nx < 0 ∧ la = k ∧ ho = true) ∨ (0 < L ∧ nx < 0 ∧ la ≠ k ∧ ho = false)) ∧
              ((∀ wx, Grow wc wx → Calls Try.prog 15 #[.pointer (some ⟨d, 0, none⟩)] wx fun e w' => e = .returned (.int .i64 (L : Int)) ∧ wx = w') ∧
              (∀ wx, Grow wc wx → Calls Try.prog 16 #[.pointer (some ⟨d, 0, none⟩)] wx fun e w' => e = .returned (.int .i64 fi) ∧ wx = w') ∧
              (∀ wx, Grow wc wx → Calls Try.prog 17 #[.pointer (some ⟨m, 0, none⟩)] wx fun e w' => e = .returned (.int .i64 fi) ∧ wx = w') ∧
              (∀ wx, Grow wc wx → Calls Try.prog 18 #[.pointer (some ⟨d, 0, none⟩)] wx fun e w' => e = .returned (.int .i64 la) ∧ wx = w') ∧
              (∀ wx, Grow wc wx → Calls Try.prog 19 #[.pointer (some ⟨m, 0, none⟩)] wx fun e w' => e = .returned (.int .i64 la) ∧ Grow wx w') ∧
              (∀ wx, Grow wc wx → Calls Try.prog 20 #[.pointer (some ⟨d, 0, none⟩), .int .i64 k] wx fun e w' => e = .returned (.int .i64 nx) ∧ wx = w') ∧
              (∀ wx, Grow wc wx → Calls Try.prog 21 #[.pointer (some ⟨m, 0, none⟩), .int .i64 k] wx fun e w' => e = .returned (.int .i64 nx) ∧ wx = w') ∧
              (∀ wx, Grow wc wx → Calls Try.prog 22 #[.pointer (some ⟨d, 0, none⟩), .int .i64 k] wx fun e w' => e = .returned (.bool ho) ∧ wx = w') ∧
              (∀ wx, Grow wc wx → Calls Try.prog 24 #[.pointer (some ⟨d, 0, none⟩)] wx fun e w' => ∃ A c, e = .returned (.slice A L c) ∧ Sl w' w'.heap.size .i64 A L (ints us) ∧ (∀ x, A = some x → wx.heap.size ≤ x.block) ∧ Grow wx w')) :=
              ⟨us.length, first us, last us, nxtI us k, okO us k, rfl, has_said hrg.1 k,
                fun wx h => len_any (HT1.out.hl.grow h), fun wx h => first_any (HT1.out.hl.grow h), fun wx h => rfirst_any (HT1.out.hr.grow h) (by omega), fun wx h => last_any (HT1.out.hl.grow h), fun wx h => rlast_any (HT1.out.hr.grow h) (by omega),
                fun wx h => next_any (HT1.out.hl.grow h) k, fun wx h => rnext_any (HT1.out.hr.grow h) k hrg.1 (by omega), fun wx h => has_any (HT1.out.hl.grow h) k, fun wx h => all_any (HT1.out.hl.grow h)⟩
            obtain ⟨hC1, hC2, hC3, hC4, hC5, hC6, hC7, hC8, hC9⟩ := hCs
            rw [hL] at hcc hsl hLn
            have CC : Hid (∀ wx, Grow wc wx → wx.cell? ⟨m, 1, none⟩ = some (.slice A L c)) := fun wx h => h.cellN hcc id
            have HSL := Lib.hid hsl
            have CLen := Lib.hid hC1
            have CF1 := Lib.hid hC2
            have CF2 := Lib.hid hC3
            have CL1 := Lib.hid hC4
            have CL2 := Lib.hid hC5
            have CN1 := Lib.hid hC6
            have CN2 := Lib.hid hC7
            have CHA := Lib.hid hC8
            have CA := Lib.hid hC9
            have hLz : (L : Int) ≤ 1024 := by omega
            have hll : ((L : Int) != (L : Int)) = false := by simp
            have hff : (fi != fi) = false := by simp
            have haa : (la != la) = false := by simp
            have hnn : (nx != nx) = false := by simp
            clear htw hrow hsl hcc hrg hL hC1 hC2 hC3 hC4 hC5 hC6 hC7 hC8 hC9 hj hK0 hK6 HT HRG HLEN HLOW pB
            go_upto_region 22 with (fail)
            simp only [List.append]
            rcases hcase with ⟨rfl, rfl⟩ | ⟨h1, h2, rfl⟩ | ⟨h1, h2, rfl, rfl⟩ | ⟨h1, h2, h3, rfl⟩
            · simp only [Int.natCast_zero, Int.cast_ofNat_Int] at CLen hLz hll
              refine wp_region_stages Grow (kept_refl _) (kept_trans _) [([0, 1, 2, 3, 4, 6, 7, 8, 9, 10], 5), ([11, 12, 13, 14, 16], 15), ([], 17), ([18, 19, 20, 21, 23], 22), ([], 24), ([25, 26, 27, 28, 29, 31, 32], 30), ([], 33), ([34, 35, 36, 37, 38, 40, 41, 42, 43, 44, 45], 39), ([46, 47, 48], 49), ([50, 51, 52, 53, 54, 55, 56, 57, 58, 59, 60, 62], 61), ([63, 64, 65, 66, 67, 68, 69, 71, 72, 73, 74], 70), ([], 75)] [76, 77] (by kernel_rfl) (by kernel_rfl) ?_
              simp only [selSt, sel, List.map_cons, List.map_nil, List.getD_cons_succ, List.getD_cons_zero]
              refine st_cons fun K1 hK1 => ?_
              have u0 := up_cell (F := fun _ => False) (w := wc.drew) (CC.out _ (Kept.drew' wc)) id
              repeat (go_big_quiet_step (fail))
              refine wpQuiet_nil ?_
              clear u0
              go_wp2_with (go_at_call 15; (with_reducible refine (CLen.out _ (Kept.drew' wc)).mono ?_); rintro e w' ⟨rfl, rfl⟩)
              refine norm_up (hK1 _ _ (kept_refl _ _) (st_cons fun K2 hK2 => ?_))
              clear hK1 K1
              repeat (go_big_quiet_step (fail))
              refine wpQuiet_nil ?_
              go_wp2_with (go_at_call 16; (with_reducible refine (CF1.out _ (Kept.drew' wc)).mono ?_); rintro e w' ⟨rfl, rfl⟩)
              refine norm_up (hK2 _ _ (kept_refl _ _) (st_cons fun K3 hK3 => ?_))
              clear hK2 K2
              refine wpQuiet_nil ?_
              go_wp2_with (go_at_call 17; (with_reducible refine (CF2.out _ (Kept.drew' wc)).mono ?_); rintro e w' ⟨rfl, rfl⟩)
              refine norm_up (hK3 _ _ (kept_refl _ _) (st_cons fun K4 hK4 => ?_))
              clear hK3 K3
              repeat (go_big_quiet_step (fail))
              refine wpQuiet_nil ?_
              go_wp2_with (go_at_call 18; (with_reducible refine (CL1.out _ (Kept.drew' wc)).mono ?_); rintro e w' ⟨rfl, rfl⟩)
              refine norm_up (hK4 _ _ (kept_refl _ _) (st_cons fun K5 hK5 => ?_))
              clear hK4 K4
              refine wpQuiet_nil ?_
              go_wp2_with (go_at_call 19; (with_reducible refine (CL2.out _ (Kept.drew' wc)).mono ?_); rintro e v1 ⟨rfl, hg1⟩; have HV1 := Lib.hid hg1; clear hg1)
              refine norm_up (hK5 _ _ HV1.out (st_cons fun K6 hK6 => ?_))
              clear hK5 K5
              have HW1 : Hid (Grow wc v1) := (Kept.drew' wc).trans HV1.out
              repeat (go_big_quiet_step (fail))
              refine wpQuiet_nil ?_
              go_wp2_with (go_at_call 20; (with_reducible refine (CN1.out _ HW1.out).mono ?_); rintro e w' ⟨rfl, rfl⟩)
              refine norm_up (hK6 _ _ (kept_refl _ _) (st_cons fun K7 hK7 => ?_))
              clear hK6 K6
              refine wpQuiet_nil ?_
              go_wp2_with (go_at_call 21; (with_reducible refine (CN2.out _ HW1.out).mono ?_); rintro e w' ⟨rfl, rfl⟩)
              refine norm_up (hK7 _ _ (kept_refl _ _) (st_cons fun K8 hK8 => ?_))
              clear hK7 K7
              have u0 := up_cell (F := fun _ => False) (w := v1) (CC.out _ HW1.out) id
              repeat (go_big_quiet_step (fail))
              refine wpQuiet_nil ?_
              clear u0
              go_wp2_with (go_at_call 22; (with_reducible refine (CHA.out _ HW1.out).mono ?_); rintro e w' ⟨rfl, rfl⟩)
              refine norm_up (hK8 _ _ (kept_refl _ _) (st_cons fun K9 hK9 => ?_))
              clear hK8 K8
              repeat (go_big_quiet_step (fail))
              refine wpQuiet_nil ?_
              go_wp2
              refine norm_up (hK9 _ _ (kept_refl _ _) (st_cons fun K10 hK10 => ?_))
              clear hK9 K9
              have u0 := up_cell (F := fun _ => False) (w := v1) (CC.out _ HW1.out) id
              repeat (go_big_quiet_step (fail))
              refine wpQuiet_nil ?_
              clear u0
              go_wp2
              refine norm_up (hK10 _ _ (kept_refl _ _) (st_cons fun K11 hK11 => ?_))
              clear hK10 K10
              have u0 := up_cell (F := fun _ => False) (w := v1) (CC.out _ HW1.out) id
              repeat (go_big_quiet_step (fail))
              refine wpQuiet_nil ?_
              clear u0
              go_wp2_with (go_at_call 24; (with_reducible refine (CA.out _ HW1.out).mono ?_); rintro e v3 ⟨A3, c3, rfl, hs3, _, hg3⟩; have HS3 := Lib.hid hs3; have HV3 := Lib.hid hg3; clear hs3 hg3)
              refine norm_up (hK11 _ _ HV3.out (st_cons fun K12 hK12 => ?_))
              clear hK11 K11
              have HW3 : Hid (Grow wc v3) := HW1.out.trans HV3.out
              refine wpQuiet_nil ?_
              go_wp2_with (go_at_call 23; (with_reducible refine (ints_true A3 A 0 c3 c v3.heap.size wc.heap.size _ (by omega) HS3.out (Sl.kept HSL.out HW3.out (Nat.le_refl _) (fun _ _ x => x))).mono ?_); rintro e v4 ⟨rfl, hg4⟩; have HV4 := Lib.hid hg4; clear hg4)
              refine norm_up (hK12 _ _ HV4.out (st_nil fun K13 hK13 => ?_))
              clear hK12 K12
              repeat (go_big_quiet_step (fail))
              refine wpQuiet_nil (hK13 _ ?_)
              clear hK13 K13
              go_wp2
              go_roundg (len1 - (j + 1))
              case measure => have := HG.out; have := HJ.out; omega
              case rel => exact ⟨j + 1, by have := HG.out; have := HJ.out; omega, by go_num, us, HT1.out.grow (HW3.out.trans HV4.out)⟩
            · have h1z : (0 : Int) < (L : Int) := by omega
              have h2d : decide (0 ≤ nx) = true := decide_eq_true h2
              refine wp_region_stages Grow (kept_refl _) (kept_trans _) [([0, 1, 2, 3, 4, 6, 7, 8, 9, 10], 5), ([11, 12, 13, 14, 16], 15), ([], 17), ([18, 19, 20, 21, 23], 22), ([], 24), ([25, 26, 27, 28, 29, 31, 32], 30), ([], 33), ([34, 35, 36, 37, 38, 40, 41, 42, 43, 44, 45], 39), ([46, 47, 48], 49), ([50, 51, 52, 53, 54, 55, 56, 57, 58, 59, 60, 62], 61), ([63, 64, 65, 66, 67, 68, 69, 71, 72, 73, 74], 70), ([], 75)] [76, 77] (by kernel_rfl) (by kernel_rfl) ?_
              simp only [selSt, sel, List.map_cons, List.map_nil, List.getD_cons_succ, List.getD_cons_zero]
              refine st_cons fun K1 hK1 => ?_
              have u0 := up_cell (F := fun _ => False) (w := wc.drew) (CC.out _ (Kept.drew' wc)) id
              repeat (go_big_quiet_step (fail))
              refine wpQuiet_nil ?_
              clear u0
              go_wp2_with (go_at_call 15; (with_reducible refine (CLen.out _ (Kept.drew' wc)).mono ?_); rintro e w' ⟨rfl, rfl⟩)
              refine norm_up (hK1 _ _ (kept_refl _ _) (st_cons fun K2 hK2 => ?_))
              clear hK1 K1
              repeat (go_big_quiet_step (fail))
              refine wpQuiet_nil ?_
              go_wp2_with (go_at_call 16; (with_reducible refine (CF1.out _ (Kept.drew' wc)).mono ?_); rintro e w' ⟨rfl, rfl⟩)
              refine norm_up (hK2 _ _ (kept_refl _ _) (st_cons fun K3 hK3 => ?_))
              clear hK2 K2
              refine wpQuiet_nil ?_
              go_wp2_with (go_at_call 17; (with_reducible refine (CF2.out _ (Kept.drew' wc)).mono ?_); rintro e w' ⟨rfl, rfl⟩)
              refine norm_up (hK3 _ _ (kept_refl _ _) (st_cons fun K4 hK4 => ?_))
              clear hK3 K3
              repeat (go_big_quiet_step (fail))
              refine wpQuiet_nil ?_
              go_wp2_with (go_at_call 18; (with_reducible refine (CL1.out _ (Kept.drew' wc)).mono ?_); rintro e w' ⟨rfl, rfl⟩)
              refine norm_up (hK4 _ _ (kept_refl _ _) (st_cons fun K5 hK5 => ?_))
              clear hK4 K4
              refine wpQuiet_nil ?_
              go_wp2_with (go_at_call 19; (with_reducible refine (CL2.out _ (Kept.drew' wc)).mono ?_); rintro e v1 ⟨rfl, hg1⟩; have HV1 := Lib.hid hg1; clear hg1)
              refine norm_up (hK5 _ _ HV1.out (st_cons fun K6 hK6 => ?_))
              clear hK5 K5
              have HW1 : Hid (Grow wc v1) := (Kept.drew' wc).trans HV1.out
              repeat (go_big_quiet_step (fail))
              refine wpQuiet_nil ?_
              go_wp2_with (go_at_call 20; (with_reducible refine (CN1.out _ HW1.out).mono ?_); rintro e w' ⟨rfl, rfl⟩)
              refine norm_up (hK6 _ _ (kept_refl _ _) (st_cons fun K7 hK7 => ?_))
              clear hK6 K6
              refine wpQuiet_nil ?_
              go_wp2_with (go_at_call 21; (with_reducible refine (CN2.out _ HW1.out).mono ?_); rintro e w' ⟨rfl, rfl⟩)
              refine norm_up (hK7 _ _ (kept_refl _ _) (st_cons fun K8 hK8 => ?_))
              clear hK7 K7
              have u0 := up_cell (F := fun _ => False) (w := v1) (CC.out _ HW1.out) id
              repeat (go_big_quiet_step (fail))
              refine wpQuiet_nil ?_
              clear u0
              go_wp2_with (go_at_call 22; (with_reducible refine (CHA.out _ HW1.out).mono ?_); rintro e w' ⟨rfl, rfl⟩)
              refine norm_up (hK8 _ _ (kept_refl _ _) (st_cons fun K9 hK9 => ?_))
              clear hK8 K8
              repeat (go_big_quiet_step (fail))
              refine wpQuiet_nil ?_
              go_wp2_with (go_at_call 21; (with_reducible refine (CN2.out _ HW1.out).mono ?_); rintro e w' ⟨rfl, rfl⟩)
              refine norm_up (hK9 _ _ (kept_refl _ _) (st_cons fun K10 hK10 => ?_))
              clear hK9 K9
              have u0 := up_cell (F := fun _ => False) (w := v1) (CC.out _ HW1.out) id
              repeat (go_big_quiet_step (fail))
              refine wpQuiet_nil ?_
              clear u0
              go_wp2
              refine norm_up (hK10 _ _ (kept_refl _ _) (st_cons fun K11 hK11 => ?_))
              clear hK10 K10
              have u0 := up_cell (F := fun _ => False) (w := v1) (CC.out _ HW1.out) id
              repeat (go_big_quiet_step (fail))
              refine wpQuiet_nil ?_
              clear u0
              go_wp2_with (go_at_call 24; (with_reducible refine (CA.out _ HW1.out).mono ?_); rintro e v3 ⟨A3, c3, rfl, hs3, _, hg3⟩; have HS3 := Lib.hid hs3; have HV3 := Lib.hid hg3; clear hs3 hg3)
              refine norm_up (hK11 _ _ HV3.out (st_cons fun K12 hK12 => ?_))
              clear hK11 K11
              have HW3 : Hid (Grow wc v3) := HW1.out.trans HV3.out
              refine wpQuiet_nil ?_
              go_wp2_with (go_at_call 23; (with_reducible refine (ints_true A3 A L c3 c v3.heap.size wc.heap.size _ (by omega) HS3.out (Sl.kept HSL.out HW3.out (Nat.le_refl _) (fun _ _ x => x))).mono ?_); rintro e v4 ⟨rfl, hg4⟩; have HV4 := Lib.hid hg4; clear hg4)
              refine norm_up (hK12 _ _ HV4.out (st_nil fun K13 hK13 => ?_))
              clear hK12 K12
              repeat (go_big_quiet_step (fail))
              refine wpQuiet_nil (hK13 _ ?_)
              clear hK13 K13
              go_wp2
              go_roundg (len1 - (j + 1))
              case measure => have := HG.out; have := HJ.out; omega
              case rel => exact ⟨j + 1, by have := HG.out; have := HJ.out; omega, by go_num, us, HT1.out.grow (HW3.out.trans HV4.out)⟩
            · have h1z : (0 : Int) < (L : Int) := by omega
              have h2d : decide (0 ≤ nx) = false := decide_eq_false (by omega)
              have h3d : (la == la) = true := by simp
              refine wp_region_stages Grow (kept_refl _) (kept_trans _) [([0, 1, 2, 3, 4, 6, 7, 8, 9, 10], 5), ([11, 12, 13, 14, 16], 15), ([], 17), ([18, 19, 20, 21, 23], 22), ([], 24), ([25, 26, 27, 28, 29, 31, 32], 30), ([], 33), ([34, 35, 36, 37, 38, 40, 41, 42, 43, 44, 45], 39), ([46, 47, 48], 49), ([50, 51, 52, 53, 54, 55, 56, 57, 58, 59, 60, 62], 61), ([63, 64, 65, 66, 67, 68, 69, 71, 72, 73, 74], 70), ([], 75)] [76, 77] (by kernel_rfl) (by kernel_rfl) ?_
              simp only [selSt, sel, List.map_cons, List.map_nil, List.getD_cons_succ, List.getD_cons_zero]
              refine st_cons fun K1 hK1 => ?_
              have u0 := up_cell (F := fun _ => False) (w := wc.drew) (CC.out _ (Kept.drew' wc)) id
              repeat (go_big_quiet_step (fail))
              refine wpQuiet_nil ?_
              clear u0
              go_wp2_with (go_at_call 15; (with_reducible refine (CLen.out _ (Kept.drew' wc)).mono ?_); rintro e w' ⟨rfl, rfl⟩)
              refine norm_up (hK1 _ _ (kept_refl _ _) (st_cons fun K2 hK2 => ?_))
              clear hK1 K1
              repeat (go_big_quiet_step (fail))
              refine wpQuiet_nil ?_
              go_wp2_with (go_at_call 16; (with_reducible refine (CF1.out _ (Kept.drew' wc)).mono ?_); rintro e w' ⟨rfl, rfl⟩)
              refine norm_up (hK2 _ _ (kept_refl _ _) (st_cons fun K3 hK3 => ?_))
              clear hK2 K2
              refine wpQuiet_nil ?_
              go_wp2_with (go_at_call 17; (with_reducible refine (CF2.out _ (Kept.drew' wc)).mono ?_); rintro e w' ⟨rfl, rfl⟩)
              refine norm_up (hK3 _ _ (kept_refl _ _) (st_cons fun K4 hK4 => ?_))
              clear hK3 K3
              repeat (go_big_quiet_step (fail))
              refine wpQuiet_nil ?_
              go_wp2_with (go_at_call 18; (with_reducible refine (CL1.out _ (Kept.drew' wc)).mono ?_); rintro e w' ⟨rfl, rfl⟩)
              refine norm_up (hK4 _ _ (kept_refl _ _) (st_cons fun K5 hK5 => ?_))
              clear hK4 K4
              refine wpQuiet_nil ?_
              go_wp2_with (go_at_call 19; (with_reducible refine (CL2.out _ (Kept.drew' wc)).mono ?_); rintro e v1 ⟨rfl, hg1⟩; have HV1 := Lib.hid hg1; clear hg1)
              refine norm_up (hK5 _ _ HV1.out (st_cons fun K6 hK6 => ?_))
              clear hK5 K5
              have HW1 : Hid (Grow wc v1) := (Kept.drew' wc).trans HV1.out
              repeat (go_big_quiet_step (fail))
              refine wpQuiet_nil ?_
              go_wp2_with (go_at_call 20; (with_reducible refine (CN1.out _ HW1.out).mono ?_); rintro e w' ⟨rfl, rfl⟩)
              refine norm_up (hK6 _ _ (kept_refl _ _) (st_cons fun K7 hK7 => ?_))
              clear hK6 K6
              refine wpQuiet_nil ?_
              go_wp2_with (go_at_call 21; (with_reducible refine (CN2.out _ HW1.out).mono ?_); rintro e w' ⟨rfl, rfl⟩)
              refine norm_up (hK7 _ _ (kept_refl _ _) (st_cons fun K8 hK8 => ?_))
              clear hK7 K7
              have u0 := up_cell (F := fun _ => False) (w := v1) (CC.out _ HW1.out) id
              repeat (go_big_quiet_step (fail))
              refine wpQuiet_nil ?_
              clear u0
              go_wp2_with (go_at_call 22; (with_reducible refine (CHA.out _ HW1.out).mono ?_); rintro e w' ⟨rfl, rfl⟩)
              refine norm_up (hK8 _ _ (kept_refl _ _) (st_cons fun K9 hK9 => ?_))
              clear hK8 K8
              repeat (go_big_quiet_step (fail))
              refine wpQuiet_nil ?_
              go_wp2_with (go_at_call 21; (with_reducible refine (CN2.out _ HW1.out).mono ?_); rintro e w' ⟨rfl, rfl⟩)
              refine norm_up (hK9 _ _ (kept_refl _ _) (st_cons fun K10 hK10 => ?_))
              clear hK9 K9
              have u0 := up_cell (F := fun _ => False) (w := v1) (CC.out _ HW1.out) id
              repeat (go_big_quiet_step (fail))
              refine wpQuiet_nil ?_
              clear u0
              go_wp2_with (go_at_call 19; (with_reducible refine (CL2.out _ HW1.out).mono ?_); rintro e v2 ⟨rfl, hg1⟩; have HV2 := Lib.hid hg1; clear hg1)
              refine norm_up (hK10 _ _ HV2.out (st_cons fun K11 hK11 => ?_))
              clear hK10 K10
              have HW2 : Hid (Grow wc v2) := HW1.out.trans HV2.out
              have u0 := up_cell (F := fun _ => False) (w := v2) (CC.out _ HW2.out) id
              repeat (go_big_quiet_step (fail))
              refine wpQuiet_nil ?_
              clear u0
              go_wp2_with (go_at_call 24; (with_reducible refine (CA.out _ HW2.out).mono ?_); rintro e v3 ⟨A3, c3, rfl, hs3, _, hg3⟩; have HS3 := Lib.hid hs3; have HV3 := Lib.hid hg3; clear hs3 hg3)
              refine norm_up (hK11 _ _ HV3.out (st_cons fun K12 hK12 => ?_))
              clear hK11 K11
              have HW3 : Hid (Grow wc v3) := HW2.out.trans HV3.out
              refine wpQuiet_nil ?_
              go_wp2_with (go_at_call 23; (with_reducible refine (ints_true A3 A L c3 c v3.heap.size wc.heap.size _ (by omega) HS3.out (Sl.kept HSL.out HW3.out (Nat.le_refl _) (fun _ _ x => x))).mono ?_); rintro e v4 ⟨rfl, hg4⟩; have HV4 := Lib.hid hg4; clear hg4)
              refine norm_up (hK12 _ _ HV4.out (st_nil fun K13 hK13 => ?_))
              clear hK12 K12
              repeat (go_big_quiet_step (fail))
              refine wpQuiet_nil (hK13 _ ?_)
              clear hK13 K13
              go_wp2
              go_roundg (len1 - (j + 1))
              case measure => have := HG.out; have := HJ.out; omega
              case rel => exact ⟨j + 1, by have := HG.out; have := HJ.out; omega, by go_num, us, HT1.out.grow (HW3.out.trans HV4.out)⟩
            · have h1z : (0 : Int) < (L : Int) := by omega
              have h2d : decide (0 ≤ nx) = false := decide_eq_false (by omega)
              have h3d : (la == k) = false := by simpa using h3
              refine wp_region_stages Grow (kept_refl _) (kept_trans _) [([0, 1, 2, 3, 4, 6, 7, 8, 9, 10], 5), ([11, 12, 13, 14, 16], 15), ([], 17), ([18, 19, 20, 21, 23], 22), ([], 24), ([25, 26, 27, 28, 29, 31, 32], 30), ([], 33), ([34, 35, 36, 37, 38, 40, 41, 42, 43, 44, 45], 39), ([46, 47, 48], 49), ([50, 51, 52, 53, 54, 55, 56, 57, 58, 59, 60, 62], 61), ([63, 64, 65, 66, 67, 68, 69, 71, 72, 73, 74], 70), ([], 75)] [76, 77] (by kernel_rfl) (by kernel_rfl) ?_
              simp only [selSt, sel, List.map_cons, List.map_nil, List.getD_cons_succ, List.getD_cons_zero]
              refine st_cons fun K1 hK1 => ?_
              have u0 := up_cell (F := fun _ => False) (w := wc.drew) (CC.out _ (Kept.drew' wc)) id
              repeat (go_big_quiet_step (fail))
              refine wpQuiet_nil ?_
              clear u0
              go_wp2_with (go_at_call 15; (with_reducible refine (CLen.out _ (Kept.drew' wc)).mono ?_); rintro e w' ⟨rfl, rfl⟩)
              refine norm_up (hK1 _ _ (kept_refl _ _) (st_cons fun K2 hK2 => ?_))
              clear hK1 K1
              repeat (go_big_quiet_step (fail))
              refine wpQuiet_nil ?_
              go_wp2_with (go_at_call 16; (with_reducible refine (CF1.out _ (Kept.drew' wc)).mono ?_); rintro e w' ⟨rfl, rfl⟩)
              refine norm_up (hK2 _ _ (kept_refl _ _) (st_cons fun K3 hK3 => ?_))
              clear hK2 K2
              refine wpQuiet_nil ?_
              go_wp2_with (go_at_call 17; (with_reducible refine (CF2.out _ (Kept.drew' wc)).mono ?_); rintro e w' ⟨rfl, rfl⟩)
              refine norm_up (hK3 _ _ (kept_refl _ _) (st_cons fun K4 hK4 => ?_))
              clear hK3 K3
              repeat (go_big_quiet_step (fail))
              refine wpQuiet_nil ?_
              go_wp2_with (go_at_call 18; (with_reducible refine (CL1.out _ (Kept.drew' wc)).mono ?_); rintro e w' ⟨rfl, rfl⟩)
              refine norm_up (hK4 _ _ (kept_refl _ _) (st_cons fun K5 hK5 => ?_))
              clear hK4 K4
              refine wpQuiet_nil ?_
              go_wp2_with (go_at_call 19; (with_reducible refine (CL2.out _ (Kept.drew' wc)).mono ?_); rintro e v1 ⟨rfl, hg1⟩; have HV1 := Lib.hid hg1; clear hg1)
              refine norm_up (hK5 _ _ HV1.out (st_cons fun K6 hK6 => ?_))
              clear hK5 K5
              have HW1 : Hid (Grow wc v1) := (Kept.drew' wc).trans HV1.out
              repeat (go_big_quiet_step (fail))
              refine wpQuiet_nil ?_
              go_wp2_with (go_at_call 20; (with_reducible refine (CN1.out _ HW1.out).mono ?_); rintro e w' ⟨rfl, rfl⟩)
              refine norm_up (hK6 _ _ (kept_refl _ _) (st_cons fun K7 hK7 => ?_))
              clear hK6 K6
              refine wpQuiet_nil ?_
              go_wp2_with (go_at_call 21; (with_reducible refine (CN2.out _ HW1.out).mono ?_); rintro e w' ⟨rfl, rfl⟩)
              refine norm_up (hK7 _ _ (kept_refl _ _) (st_cons fun K8 hK8 => ?_))
              clear hK7 K7
              have u0 := up_cell (F := fun _ => False) (w := v1) (CC.out _ HW1.out) id
              repeat (go_big_quiet_step (fail))
              refine wpQuiet_nil ?_
              clear u0
              go_wp2_with (go_at_call 22; (with_reducible refine (CHA.out _ HW1.out).mono ?_); rintro e w' ⟨rfl, rfl⟩)
              refine norm_up (hK8 _ _ (kept_refl _ _) (st_cons fun K9 hK9 => ?_))
              clear hK8 K8
              repeat (go_big_quiet_step (fail))
              refine wpQuiet_nil ?_
              go_wp2_with (go_at_call 21; (with_reducible refine (CN2.out _ HW1.out).mono ?_); rintro e w' ⟨rfl, rfl⟩)
              refine norm_up (hK9 _ _ (kept_refl _ _) (st_cons fun K10 hK10 => ?_))
              clear hK9 K9
              have u0 := up_cell (F := fun _ => False) (w := v1) (CC.out _ HW1.out) id
              repeat (go_big_quiet_step (fail))
              refine wpQuiet_nil ?_
              clear u0
              go_wp2_with (go_at_call 19; (with_reducible refine (CL2.out _ HW1.out).mono ?_); rintro e v2 ⟨rfl, hg1⟩; have HV2 := Lib.hid hg1; clear hg1)
              refine norm_up (hK10 _ _ HV2.out (st_cons fun K11 hK11 => ?_))
              clear hK10 K10
              have HW2 : Hid (Grow wc v2) := HW1.out.trans HV2.out
              have u0 := up_cell (F := fun _ => False) (w := v2) (CC.out _ HW2.out) id
              repeat (go_big_quiet_step (fail))
              refine wpQuiet_nil ?_
              clear u0
              go_wp2_with (go_at_call 24; (with_reducible refine (CA.out _ HW2.out).mono ?_); rintro e v3 ⟨A3, c3, rfl, hs3, _, hg3⟩; have HS3 := Lib.hid hs3; have HV3 := Lib.hid hg3; clear hs3 hg3)
              refine norm_up (hK11 _ _ HV3.out (st_cons fun K12 hK12 => ?_))
              clear hK11 K11
              have HW3 : Hid (Grow wc v3) := HW2.out.trans HV3.out
              refine wpQuiet_nil ?_
              go_wp2_with (go_at_call 23; (with_reducible refine (ints_true A3 A L c3 c v3.heap.size wc.heap.size _ (by omega) HS3.out (Sl.kept HSL.out HW3.out (Nat.le_refl _) (fun _ _ x => x))).mono ?_); rintro e v4 ⟨rfl, hg4⟩; have HV4 := Lib.hid hg4; clear hg4)
              refine norm_up (hK12 _ _ HV4.out (st_nil fun K13 hK13 => ?_))
              clear hK12 K12
              repeat (go_big_quiet_step (fail))
              refine wpQuiet_nil (hK13 _ ?_)
              clear hK13 K13
              go_wp2
              go_roundg (len1 - (j + 1))
              case measure => have := HG.out; have := HJ.out; omega
              case rel => exact ⟨j + 1, by have := HG.out; have := HJ.out; omega, by go_num, us, HT1.out.grow (HW3.out.trans HV4.out)⟩
        · obtain rfl : j = len1 := by have := HG.out; omega
          have HFIN : Hid (Below w.heap.size w wr) := Kept.below ((Grow.kept HGG.out).trans HT.out.hk) (fun k h => Nat.le_of_not_lt fun hk => HOLDW.out k hk h) (Nat.le_refl _)
          clear hj HOPS
          go_wp2_with (go_at_call 8; (with_reducible refine (told_any _).mono ?_); rintro e w3 ⟨rfl, hge⟩; have HGE := Lib.hid hge; clear hge)
          go_ret
          exact ⟨rfl, HFIN.out.trans (HGE.out.below.mono HFIN.out.size)⟩
  · go_enter Try.func3, Try.ntmps3
    have CN := Lib.hid fun (wx : World) => new_bad (w := wx) a0 hpg
    by_cases h0 : a0 < 0
    · clear hpg
      go_wp2_with (first
        | (go_at_call 7; (with_reducible refine (CN.out _).mono ?_); rintro e w' ⟨rfl, rfl⟩)
        | (go_at_call 8; (with_reducible refine (told_any _).mono ?_); rintro e w3 ⟨rfl, hge⟩; have HGE := Lib.hid hge; clear hge))
      go_ret
      exact ⟨rfl, Grow.below HGE.out⟩
    · have h1 : 1024 < a0 := by omega
      clear hpg
      go_wp2_with (first
        | (go_at_call 7; (with_reducible refine (CN.out _).mono ?_); rintro e w' ⟨rfl, rfl⟩)
        | (go_at_call 8; (with_reducible refine (told_any _).mono ?_); rintro e w3 ⟨rfl, hge⟩; have HGE := Lib.hid hge; clear hge))
      go_ret
      exact ⟨rfl, Grow.below HGE.out⟩

/-! ### THE ROW's STEP: WRITTEN OUT: LEAVE IT -/
set_option maxRecDepth 100000 in
theorem lifted (os : Os) (started : os.Started) (H : Type) (enc : TypeId × Value → H) :
    ReturnsInHanded {} Try.checked os 3 .any (Rows.listPlaysSpec.pre6 enc Try.prog Try.f3 Rows.listPlaysRow.domain false) (Rows.listPlaysSpec.post enc Try.prog Try.f3 false true false false) := by
  refine returnsInHanded_of_change (C := Try.checked) own started (by kernel_rfl) Try.func3
    (ChangeSpec.witness6 (enc := enc) (C := Try.checked) false ⟨#[], #[.int .i64 0, .slice none 0 0], []⟩ 8 (by kernel_rfl) (by kernel_rfl) (by kernel_rfl) (by kernel_rfl)) ?_
  intro W base args ds gs before hval0 hW hcnd _
  have hval : ∀ (j : Nat) t v, Try.f3.params[j]? = some t → args[j]? = some v → Value.okWide Try.prog W .any base t v := hval0
  have hW' := hW
  obtain ⟨p, q, hA0, hV, rfl, hfz, hnd⟩ := hW
  have hA : DataW.TrodAll enc Try.prog W 0 (fun _ => true) true Try.f3.params.toList args.toList ds p := hA0
  rw [Try.params3] at hA hval
  obtain ⟨v0, vs0, d0, ds0, p0, q0, hargs, rfl, rfl, h0, r0⟩ := trodAll_cons hA
  obtain ⟨v1, vs1, d1, ds1, p1, q1, rfl, rfl, rfl, h1, r1⟩ := trodAll_cons r0
  obtain ⟨rfl, rfl, rfl⟩ := trodAll_nil r1
  obtain rfl : args = #[v0, v1] := by cases args; simp_all
  obtain ⟨rfl, rfl⟩ := trodVars_none hV
  obtain ⟨a0, rfl, rfl, rfl, w0⟩ := open_int Try.underlying3 (hval 0 3 v0 rfl rfl) h0
  obtain ⟨a1, len1, cap1, rfl⟩ := okWide_slice Try.underlying22 (hval 1 22 v1 rfl rfl)
  have k1 := h1
  have lt1 : ∀ x ∈ p1, x.block < W.heap.size := by obtain ⟨m, hm⟩ := k1; exact DataW.trod_lt m _ _ _ hm
  have w1 : OpsAt W a1 len1 cap1 := by obtain ⟨fuel, hf⟩ := h1; exact ops_open hf
  clear hA0 hval0
  refine (walk a0 a1 len1 cap1 W w0 w1).mono fun e W' ⟨he, bel⟩ => ?_
  subst he
  exact ⟨_, rfl, _, _, _, [], _, [], hW', trodAll_mk1 (shut_bool Try.underlying4 _), (trodAll_cons_mk (shut_int Try.underlying3 w0) (trodAll_cons_mk (Below.trod laidOut (by kernel_rfl) (of_decide_eq_true (by kernel_rfl)) k1 bel lt1) trodAll_mk0)), rfl, bel.frame _, fun h => by cases h⟩

theorem over : Rows.listPlaysRow.holds Try.pinned (OpenSpec.ofChange Rows.listPlaysSpec) :=
  OpenClaim.holds_of_wide 3 Try.f3 rfl rfl rfl rfl rfl rfl rfl ⟨rfl, rfl, rfl, rfl, rfl⟩ rfl rfl rfl rfl rfl (by kernel_rfl) Try.func3 (by kernel_rfl)
    (of_decide_eq_true (by kernel_rfl)) (by unfold Func.isWrapper; first | (rw [if_pos (by decide +kernel)]; kernel_rfl) | (rw [if_neg (by decide +kernel)]; exact ⟨rfl, rfl⟩))
    (fun os started H enc _ => lifted os started H enc)

/-- ████ THE STATEMENT ████ -/
theorem proved : Rows.ListPlaysSaid := over
#print axioms proved
end Go.Proofs.Ytkcfgmonpbgkgaa.listPlays
