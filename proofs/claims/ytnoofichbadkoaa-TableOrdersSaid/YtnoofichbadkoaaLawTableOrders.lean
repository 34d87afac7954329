/-
  For every input the call of lavabolaw5.TableOrders returns true and leaves its arguments as they were; no condition.
-/
import Derived.Test.YtnoofichbadkoaaTold5
import Derived.Test.YtnoofichbadkoaaRows
import Derived.WalkKit
import Derived.ProofKit
import Derived.OpenShut
import Derived.ShutString
import Derived.ChangeOld
import Derived.Below
namespace Go.Proofs.Ytnoofichbadkoaa.tableOrders
open Go.ChangeShapes Go.WideShapes Go.ChangeAt Go.RowKit
open Go.ChangeMaps (open_string shut_string)
open Go.Proofs.Ytnoofichbadkoaa.Mem Go.Proofs.Ytnoofichbadkoaa.Blk Go.Proofs.Ytnoofichbadkoaa.Cells Go.Proofs.Ytnoofichbadkoaa.TabM Go.Proofs.Ytnoofichbadkoaa.TabC Go.Proofs.Ytnoofichbadkoaa.TabD Go.Proofs.Ytnoofichbadkoaa.TabO Go.Proofs.Ytnoofichbadkoaa.Told5 Go.Proofs.Ytnoofichbadkoaa.Stages
set_option linter.unusedVariables false

theorem own : ownKnob Try.prog.godebug = none := by kernel_rfl
theorem laidOut : laidOutB Try.prog = true := by kernel_rfl

/-- WHAT THE WALK IS TOLD OF A SLICE OF INTEGERS THAT CAME IN: it is nil; or it leads to a row of 'cap' cells, the numbers 'zs' (the first 'len' are its elements, the rest its spare room), each fitting its kind. -/
def IsRow (k : IntKind) (w : World) (a : Option Addr) (len cap : Nat) (zs : List Int) : Prop :=
  (a = none ∧ len = 0 ∧ cap = 0 ∧ zs = []) ∨
  ∃ x, a = some x ∧ len ≤ cap ∧ cap ≤ maxLen ∧ zs.length = cap ∧ (∀ i, i < zs.length → w.cell? (x.add i) = some (.int k (zs.getD i 0))) ∧ ∀ n ∈ zs, (Lit.int k n).wf = true

def seven : Nat → Int := fun m => 7 * (m : Int)
/-- A table of n slots in which are those of P; at most c Puts were made. -/
structure Ord (T : Tb) (n : Nat) (P : Nat → Prop) (c : Nat) : Prop where
  n : T.n = n
  le : T.cnt ≤ c
  abs : ∃ I, (∀ m, I m = true ↔ P m) ∧ Abs T I seven ∧ T.cnt = TabM.cnt I 50
theorem ord_zero {n : Nat} (h : 1 ≤ n) (P : Nat → Prop) (hP : ∀ m, ¬ P m) : Ord (fresh n) n P 0 :=
  ⟨rfl, by rw [cnt_fresh]; omega, _, fun m => ⟨fun x => (by cases x), fun x => absurd x (hP m)⟩, abs_fresh h seven, by rw [cnt_fresh, cnt_none fun _ _ => rfl]⟩
theorem ord_put {T : Tb} {n c k : Nat} {P Q : Nat → Prop} (h : Ord T n P c) (hc : c < n) (hk : k < 50) (hQ : ∀ m, Q m ↔ P m ∨ m = k) : Ord (T.put (k : Int) (7 * (k : Int))) n Q (c + 1) := by
  obtain ⟨hn, hl, I, hI, ha, hcnt⟩ := h
  refine ⟨(put_n _).trans hn, ?_, ?_⟩
  · cases hi : I k with
    | true => rw [(ha.put_in hi _).2]; omega
    | false => rw [(ha.put_new hi (by omega) _).2.2]; omega
  · cases hi : I k with
    | true =>
      rw [(ha.put_in hi _).2]
      refine ⟨I, fun m => ?_, ha, hcnt⟩
      rw [hQ, hI]
      constructor
      · exact .inl
      · rintro (h | rfl)
        · exact h
        · exact (hI _).1 hi
    | false =>
      obtain ⟨_, h1, h2⟩ := ha.put_new hi (by omega) (7 * (k : Int))
      refine ⟨upd I k true, fun m => ?_, ?_, ?_⟩
      · rw [hQ]
        by_cases e : m = k
        · subst e; rw [upd_same]; exact ⟨fun _ => .inr rfl, fun _ => rfl⟩
        · rw [upd_other _ _ e, hI]
          exact ⟨.inl, fun h => h.elim id fun h => absurd h e⟩
      · have : upd seven k (7 * (k : Int)) = seven := by
          funext m
          unfold upd seven
          by_cases e : m = k
          · rw [if_pos e, e]
          · rw [if_neg e]
        rwa [this] at h1
      · rw [h2, hcnt, cnt_on hk hi]
theorem ord_same {T U : Tb} {n c c' : Nat} {P : Nat → Prop} (h : Ord T n P c) (h' : Ord U n P c') : ∃ I : Nat → Bool, (∀ k : Nat, T.get (k : Int) = if I k = true then 7 * (k : Int) else -1) ∧ (∀ k : Nat, U.get (k : Int) = if I k = true then 7 * (k : Int) else -1) ∧ T.cnt = U.cnt := by
  obtain ⟨_, _, I, hI, ha, hc⟩ := h
  obtain ⟨_, _, J, hJ, hb, hd⟩ := h'
  have : I = J := by
    funext m
    rw [Bool.eq_iff_iff, hI, hJ]
  subst this
  exact ⟨I, fun k => ha.get k, fun k => hb.get k, by rw [hc, hd]⟩
theorem Ord.iff {T : Tb} {n c : Nat} {P Q : Nat → Prop} (h : Ord T n P c) (e : ∀ m, P m ↔ Q m) : Ord T n Q c := by
  obtain ⟨hn, hl, I, hI, ha, hc⟩ := h
  exact ⟨hn, hl, I, fun m => (hI m).trans (e m), ha, hc⟩
def kk (zs : List Int) (i : Nat) : Nat := ((IntKind.u64.wrap (zs.getD i 0)).tmod 50).toNat
theorem kk_spec (zs : List Int) (i : Nat) : (IntKind.u64.wrap (zs.getD i 0)).tmod 50 = ((kk zs i : Nat) : Int) ∧ kk zs i < 50 := by
  obtain ⟨K, h1, h2⟩ := tmod_nat (zs.getD i 0) 50 (by omega)
  simp only [Int.cast_ofNat_Int] at h1
  unfold kk
  rw [h1]
  exact ⟨by simp, by simpa using h2⟩
/-- Two tables side by side, of as many slots. -/
structure Both (w1 wx : World) (d D d' D' : Nat) (T U : Tb) : Prop where
  a : TabAt wx d D T
  b : TabAt wx d' D' U
  k : Kept (fun k => Own d D k ∨ Own d' D' k) w1 wx
theorem Both.putA {w1 wx w' : World} {d D d' D' : Nat} {T U V : Tb} (hne : ∀ k, Own d D k → ¬ Own d' D' k) (h : Both w1 wx d D d' D' T U) (h1 : TabAt w' d D V) (hk : Kept (Own d D) wx w') : Both w1 w' d D d' D' V U :=
  ⟨h1, TabAt.kept h.b hk hne, h.k.trans (hk.mono fun _ _ x => .inl x)⟩
theorem Both.putB {w1 wx w' : World} {d D d' D' : Nat} {T U V : Tb} (hne : ∀ k, Own d D k → ¬ Own d' D' k) (h : Both w1 wx d D d' D' T U) (h1 : TabAt w' d' D' V) (hk : Kept (Own d' D') wx w') : Both w1 w' d D d' D' T V :=
  ⟨TabAt.kept h.a hk fun k x y => hne k y x, h1, h.k.trans (hk.mono fun _ _ x => .inr x)⟩
def ALoop (w1 : World) (zs : List Int) (d D d' D' N M : Nat) (g : Nat) (i : Value) (wx : World) : Prop := ∃ (j : Nat) (T : Tb), j + g = M ∧ i = .int .i64 (j : Int) ∧ Both w1 wx d D d' D' T (fresh N) ∧ Ord T N (fun m => ∃ i, i < j ∧ kk zs i = m) j
def AMid (w1 : World) (zs : List Int) (d D d' D' N M : Nat) (wx : World) : Prop := ∃ T : Tb, Both w1 wx d D d' D' T (fresh N) ∧ Ord T N (fun m => ∃ i, i < M ∧ kk zs i = m) M
def BLoop (w1 : World) (zs : List Int) (d D d' D' N M : Nat) (T : Tb) (g : Nat) (i : Value) (wx : World) : Prop := ∃ (U : Tb) (c : Nat), c + g = M ∧ i = .int .i64 ((g : Int) - 1) ∧ Both w1 wx d D d' D' T U ∧ Ord U N (fun m => ∃ i, (g ≤ i ∧ i < M) ∧ kk zs i = m) c

/-! ### STEP 1: THE WALK: the Go text returns true, AND WRITES NOTHING THAT WAS THERE: 'Below w.heap.size w w'' (Derived/Below.lean: '.refl', '.alloc', '.drew', '.setCell' at a new block, '.trans'). Open each 'IsRow' by 'rcases' AHEAD of 'go_enter'; part every test ahead of the walk. -/
set_option maxHeartbeats 4000000 in
set_option maxRecDepth 100000 in
theorem walk (a0 : Option Addr) (len0 cap0 : Nat) (z0 : List Int) (a1 : Int) (w : World) (w0 : IsRow .i64 w a0 len0 cap0 z0) (w1 : (Lit.int .i64 a1).wf = true) :
    Calls Try.prog 8 #[.slice a0 len0 cap0, .int .i64 a1] w fun e w' => e = .returned (.bool true) ∧ Below w.heap.size w w' := by
  obtain ⟨hs, hle, hcap, hwf⟩ := Sl.of_isRow w0
  unfold maxLen at hcap
  have k1 := bounds_i64 w1
  generalize z0.take len0 = zs at hs hwf
  have HS := Lib.hid hs
  have HWF := Lib.hid hwf
  have HZL : Hid (zs.length = len0) := hs.len
  clear hs hwf w0
  obtain ⟨n0, hn, hn10⟩ := tmod_nat a1 10 (by omega)
  simp only [Int.cast_ofNat_Int] at hn
  have hnz : (n0 : Int) < 10 := by omega
  obtain ⟨N, hN⟩ : ∃ N : Nat, N = 20 + n0 := ⟨_, rfl⟩
  have HN := Lib.hid hN
  have hN1 : 20 ≤ N := by omega
  have hN30 : N ≤ 30 := by omega
  clear hN
  obtain ⟨M, hM⟩ : ∃ M : Nat, M = min len0 20 := ⟨_, rfl⟩
  have HM := Lib.hid hM
  have hM20 : M ≤ 20 := by omega
  have HMZ : Hid ((M : Int) ≤ 20) := by show _ ≤ _; omega
  clear hM
  go_enter Try.func8, Try.ntmps8
  go_upto_region 1 with (fail)
  go_cut [5] (fun s5 wx => s5 = .int .i64 (N : Int) ∧ w = wx)
  case first =>
    go_wp2_with fail
    all_goals (go_meet; exact ⟨by have := HN.out; congr 1; omega, rfl⟩)
  case rest =>
    obtain ⟨rfl, rfl⟩ := hcut
    clear hn hnz hn10 HN n0
    have hNz : (N : Int) ≤ 30 := by omega
    have hNz1 : (20 : Int) ≤ (N : Int) := by omega
    have CN1 : Hid (Calls Try.prog 9 #[.int .i64 (N : Int)] w (NewPost N w)) := new_good N (by omega) (by omega)
    have CN2 : Hid (∀ wx : World, Calls Try.prog 9 #[.int .i64 (N : Int)] wx (NewPost N wx)) := fun wx => new_good N (by omega) (by omega)
    go_upto_block 0 with (first
      | (go_at_call 9; (with_reducible refine CN1.out.mono ?_); rintro e wa ⟨d, D, rfl, hl, hd1, hd2, hg⟩; have H0 := Lib.hid hl; have HD := Lib.hid (And.intro hd1 hd2); have G0 := Lib.hid hg; clear hl hd1 hd2 hg)
      | (go_at_call 9; (with_reducible refine (CN2.out _).mono ?_); rintro e w1 ⟨d', D', rfl, hl, hd1, hd2, hg⟩; have H1 := Lib.hid hl; have HD' := Lib.hid (And.intro hd1 hd2); have G1 := Lib.hid hg; clear hl hd1 hd2 hg))
    have HNE : Hid (∀ k, Own d D k → ¬ Own d' D' k) := fun k x y => by
      have h1 := Raw.lt H0.out
      have h2 := HD'.out.1
      have h3 := HD'.out.2
      rcases x with x | x <;> rcases y with y | y <;> omega
    have HOLD : Hid (∀ k, k < w.heap.size → ¬ (Own d D k ∨ Own d' D' k)) := fun k hk h => by
      have h1 := HD.out.1
      have h2 := HD.out.2
      have h3 := HD'.out.1
      have h4 := HD'.out.2
      have h5 := G0.out.size
      rcases h with (h | h) | h | h <;> omega
    have HBO : Hid (Both w1 w1 d D d' D' (fresh N) (fresh N)) := ⟨TabAt.grow H0.out G1.out, H1.out, Kept.refl _ _⟩
    have HG0 : Hid (Grow w w1) := G0.out.trans G1.out
    clear G0 G1 H0 H1 HD HD' CN1 CN2
    have HREAD : Hid (∀ wx, Kept (fun k => Own d D k ∨ Own d' D' k) w1 wx → ∀ b o v, b < w.heap.size → w.cell? ⟨b, o, none⟩ = some v → wx.cell? ⟨b, o, none⟩ = some v) := fun wx hk b o v hb h => hk.cellN (HG0.out.cellN h id) (HOLD.out b hb)
    go_cut [8, 9] from 28 (fun _ _ wx => AMid w1 zs d D d' D' N M wx)
    case first =>
      go_wp2_with (fail)
      go_loopg [8] M (ALoop w1 zs d D d' D' N M)
      case atStart => exact ⟨0, _, by omega, rfl, HBO.out, ord_zero (by omega) _ (fun m h => by obtain ⟨i, h, _⟩ := h; omega)⟩
      case round =>
        obtain ⟨j, T, hg, rfl, hb, ho⟩ := hrel
        have HG := Lib.hid hg
        have HB := Lib.hid hb
        have HO := Lib.hid ho
        clear hg hb ho
        by_cases hj : j < M
        · have hj1 : j < len0 := by have := HM.out; omega
          have hj2 : (j : Int) < 20 := by have := HM.out; omega
          have hj1z : (j : Int) < (len0 : Int) := by omega
          obtain ⟨ab, ao, rfl, hab, hall⟩ := HS.out.at_ (by omega)
          have cx := HREAD.out _ HB.out.k ab _ _ hab (hall j hj1)
          have hxb := bounds_i64 (HWF.out (zs.getD j 0) (by rw [List.getD_eq_getElem?_getD, List.getElem?_eq_getElem (by have := HZL.out; omega)]; exact List.getElem_mem _))
          obtain ⟨hn, hk50⟩ := kk_spec zs j
          have HP : Hid (Ord (T.put ((kk zs j : Nat) : Int) (7 * ((kk zs j : Nat) : Int))) N (fun m => ∃ i, i < j + 1 ∧ kk zs i = m) (j + 1)) := ord_put HO.out (by omega) hk50 fun m => by
            constructor
            · rintro ⟨i, h1, h2⟩
              by_cases e : i = j
              · subst e; exact .inr h2.symm
              · exact .inl ⟨i, by omega, h2⟩
            · rintro (⟨i, h1, h2⟩ | h)
              · exact ⟨i, by omega, h2⟩
              · exact ⟨j, by omega, h.symm⟩
          have HJ := Lib.hid hj
          have hkz : ((kk zs j : Nat) : Int) < 50 := by omega
          clear hall hj hj1 hk50
          generalize kk zs j = K at *
          generalize zs.getD j 0 = x at *
          go_wp2_with (go_at_call 10; (with_reducible refine (put_any HB.out.a (K : Int) (7 * (K : Int))).mono ?_); rintro e w2 ⟨rfl, hl, hk⟩; have HL2 := Lib.hid hl; have HK2 := Lib.hid hk; clear hl hk)
          go_roundg (gk - 1)
          case measure => have := HG.out; have := HJ.out; omega
          case rel => exact ⟨j + 1, _, by have := HG.out; have := HJ.out; omega, by go_num, HB.out.putA HNE.out HL2.out HK2.out, HP.out⟩
        · have hjM : j = M := by have := HG.out; omega
          have HM' : Hid (j = min len0 20) := by have := HM.out; show _ = _; omega
          have HF : Hid (AMid w1 zs d D d' D' N M wr) := by subst hjM; exact ⟨T, HB.out, HO.out⟩
          clear hjM hj
          by_cases h20 : len0 ≤ 20
          · have hlz : (len0 : Int) ≤ 20 := by omega
            obtain rfl : len0 = j := by have := HM'.out; omega
            go_wp2_with (fail)
            go_meet
            exact HF.out
          · obtain rfl : j = 20 := by have := HM'.out; omega
            simp only [Int.cast_ofNat_Int]
            have hlz : (20 : Int) < (len0 : Int) := by omega
            go_wp2_with (fail)
            go_meet
            exact HF.out
    case rest =>
      obtain ⟨T, hb, ho⟩ := hcut
      have HB := Lib.hid hb
      have HO := Lib.hid ho
      clear hb ho HBO
      go_upto_region 10 with (fail)
      go_cut [10] (fun s wx => s = .int .i64 ((M : Int) - 1) ∧ wc = wx)
      case first =>
        by_cases h20 : len0 ≤ 20
        · have hlz : (len0 : Int) ≤ 20 := by omega
          have e : M = len0 := by have := HM.out; omega
          go_wp2_with (fail)
          all_goals (go_meet; exact ⟨by rw [e], rfl⟩)
        · have hlz : (20 : Int) < (len0 : Int) := by omega
          have e : M = 20 := by have := HM.out; omega
          go_wp2_with (fail)
          all_goals (go_meet; exact ⟨by rw [e]; rfl, rfl⟩)
      case rest =>
        obtain ⟨rfl, rfl⟩ := hcut
        have hMz : (M : Int) ≤ 20 := by omega
        go_wp2_with (fail)
        go_loopg [10] M (BLoop w1 zs d D d' D' N M T)
        case atStart => exact ⟨_, 0, by omega, rfl, HB.out, ord_zero (by omega) _ (fun m h => by obtain ⟨i, h, _⟩ := h; omega)⟩
        case round =>
          obtain ⟨U, c, hg, rfl, hb, ho⟩ := hrel
          have HG := Lib.hid hg
          have HB2 := Lib.hid hb
          have HO2 := Lib.hid ho
          clear hg hb ho
          by_cases hj : 0 < gk
          · obtain ⟨q, rfl⟩ : ∃ q, gk = q + 1 := ⟨gk - 1, by omega⟩
            have hqM : q < M := by have := HG.out; omega
            have hq1 : q < len0 := by have := HM.out; omega
            rw [show ((q + 1 : Nat) : Int) - 1 = (q : Int) by omega]
            have hqz : (q : Int) < 20 := by omega
            have hq1z : (q : Int) < (len0 : Int) := by omega
            obtain ⟨ab, ao, rfl, hab, hall⟩ := HS.out.at_ (by omega)
            have cx := HREAD.out _ HB2.out.k ab _ _ hab (hall q hq1)
            have hxb := bounds_i64 (HWF.out (zs.getD q 0) (by rw [List.getD_eq_getElem?_getD, List.getElem?_eq_getElem (by have := HZL.out; omega)]; exact List.getElem_mem _))
            obtain ⟨hn, hk50⟩ := kk_spec zs q
            have HP : Hid (Ord (U.put ((kk zs q : Nat) : Int) (7 * ((kk zs q : Nat) : Int))) N (fun m => ∃ i, (q ≤ i ∧ i < M) ∧ kk zs i = m) (c + 1)) := ord_put HO2.out (by have := HG.out; omega) hk50 fun m => by
              constructor
              · rintro ⟨i, h1, h2⟩
                by_cases e : i = q
                · subst e; exact .inr h2.symm
                · exact .inl ⟨i, by omega, h2⟩
              · rintro (⟨i, h1, h2⟩ | h)
                · exact ⟨i, by omega, h2⟩
                · exact ⟨q, by omega, h.symm⟩
            have hkz : ((kk zs q : Nat) : Int) < 50 := by omega
            clear hall hj hq1 hk50
            generalize kk zs q = K at *
            generalize zs.getD q 0 = x at *
            go_wp2_with (go_at_call 10; (with_reducible refine (put_any HB2.out.b (K : Int) (7 * (K : Int))).mono ?_); rintro e w2 ⟨rfl, hl, hk⟩; have HL2 := Lib.hid hl; have HK2 := Lib.hid hk; clear hl hk)
            go_roundg q
            case measure => omega
            case rel => exact ⟨_, c + 1, by have := HG.out; omega, rfl, HB2.out.putB HNE.out HL2.out HK2.out, HP.out⟩
          · obtain rfl : gk = 0 := by omega
            simp only [Int.natCast_zero, Int.cast_ofNat_Int, Int.zero_sub]
            obtain ⟨I, g1, g2, g3⟩ := ord_same HO.out (HO2.out.iff (Q := fun m => ∃ i, i < M ∧ kk zs i = m) fun m => ⟨fun ⟨i, h1, h2⟩ => ⟨i, h1.2, h2⟩, fun ⟨i, h1, h2⟩ => ⟨i, ⟨Nat.zero_le _, h1⟩, h2⟩⟩)
            have X1 := Lib.hid g1
            have X2 := Lib.hid g2
            have X3 := Lib.hid g3
            clear g1 g2 g3 hj HO HO2 HG HB HM HREAD HS HZL HWF hle hcap hMz
            go_wp2_with (fail)
            go_loopg [12] 50 (fun gx i wx => ∃ q : Nat, q + gx = 50 ∧ i = .int .i64 (q : Int) ∧ wr = wx)
            case atStart => exact ⟨0, by omega, rfl, rfl⟩
            case round =>
              obtain ⟨q, hg, rfl, rfl⟩ := hrel
              have HQ := Lib.hid hg
              clear hg
              by_cases hq : q < 50
              · have hqz : (q : Int) < 50 := by omega
                cases hI : I q with
                | true =>
                  have CA : Hid (Calls Try.prog 13 #[.pointer (some ⟨d, 0, none⟩), .int .i64 (q : Int)] wr fun e w' => e = .returned (.int .i64 (7 * (q : Int))) ∧ wr = w') := t_get (q : Int) HB2.out.a (by rw [X1.out q, hI]; rfl)
                  have CB : Hid (Calls Try.prog 13 #[.pointer (some ⟨d', 0, none⟩), .int .i64 (q : Int)] wr fun e w' => e = .returned (.int .i64 (7 * (q : Int))) ∧ wr = w') := t_get (q : Int) HB2.out.b (by rw [X2.out q, hI]; rfl)
                  clear hI hq
                  go_wp2_with (first
                    | (go_at_call 13; (with_reducible refine CA.out.mono ?_); rintro e w' ⟨rfl, rfl⟩)
                    | (go_at_call 13; (with_reducible refine CB.out.mono ?_); rintro e w' ⟨rfl, rfl⟩))
                  all_goals
                    go_roundg (gk - 1)
                    case measure => have := HQ.out; omega
                    case rel => exact ⟨q + 1, by have := HQ.out; omega, by go_num, rfl⟩
                | false =>
                  have CA : Hid (Calls Try.prog 13 #[.pointer (some ⟨d, 0, none⟩), .int .i64 (q : Int)] wr fun e w' => e = .returned (.int .i64 (-1)) ∧ wr = w') := t_get (q : Int) HB2.out.a (by rw [X1.out q, hI]; rfl)
                  have CB : Hid (Calls Try.prog 13 #[.pointer (some ⟨d', 0, none⟩), .int .i64 (q : Int)] wr fun e w' => e = .returned (.int .i64 (-1)) ∧ wr = w') := t_get (q : Int) HB2.out.b (by rw [X2.out q, hI]; rfl)
                  clear hI hq
                  go_wp2_with (first
                    | (go_at_call 13; (with_reducible refine CA.out.mono ?_); rintro e w' ⟨rfl, rfl⟩)
                    | (go_at_call 13; (with_reducible refine CB.out.mono ?_); rintro e w' ⟨rfl, rfl⟩))
                  go_roundg (gk - 1)
                  case measure => have := HQ.out; omega
                  case rel => exact ⟨q + 1, by have := HQ.out; omega, by go_num, rfl⟩
              · obtain rfl : q = 50 := by have := HQ.out; omega
                simp only [Int.cast_ofNat_Int]
                have CA : Hid (∀ wx, Grow wr wx → Calls Try.prog 14 #[.pointer (some ⟨d, 0, none⟩)] wx fun e w' => e = .returned (.int .i64 (T.cnt : Int)) ∧ wx = w') := fun wx h => t_len (TabAt.grow HB2.out.a h) rfl
                have CB : Hid (∀ wx, Grow wr wx → Calls Try.prog 14 #[.pointer (some ⟨d', 0, none⟩)] wx fun e w' => e = .returned (.int .i64 (T.cnt : Int)) ∧ wx = w') := fun wx h => t_len (TabAt.grow HB2.out.b h) X3.out.symm
                have HBL : Hid (Below w.heap.size w wr) := Kept.below ((Grow.kept HG0.out).trans HB2.out.k) (fun k h => Nat.le_of_not_lt fun hk => HOLD.out k hk h) (Nat.le_refl _)
                clear hq X1 X2 X3
                generalize T.cnt = L at CA CB
                go_wp2_with (first
                  | (go_at_call 12; (with_reducible refine (told_any _).mono ?_); rintro e w5 ⟨rfl, hge⟩; have HGE := Lib.hid hge; clear hge)
                  | (go_at_call 14; (with_reducible refine (CA.out _ HGE.out).mono ?_); rintro e w' ⟨rfl, rfl⟩)
                  | (go_at_call 14; (with_reducible refine (CB.out _ HGE.out).mono ?_); rintro e w' ⟨rfl, rfl⟩))
                go_ret
                exact ⟨by simp, HBL.out.trans ((Grow.below HGE.out).mono HBL.out.size)⟩

/-! ### THE ROW's STEP: WRITTEN OUT: LEAVE IT -/
set_option maxRecDepth 100000 in
theorem lifted (os : Os) (started : os.Started) (H : Type) (enc : TypeId × Value → H) :
    ReturnsInHanded {} Try.checked os 8 .any (Rows.tableOrdersSpec.pre6 enc Try.prog Try.f8 Rows.tableOrdersRow.domain false) (Rows.tableOrdersSpec.post enc Try.prog Try.f8 false true false false) := by
  refine returnsInHanded_of_change (C := Try.checked) own started (by kernel_rfl) Try.func8
    (ChangeSpec.witness6 (enc := enc) (C := Try.checked) false ⟨#[], #[.slice none 0 0, .int .i64 0], []⟩ 8 (by kernel_rfl) (by kernel_rfl) (by kernel_rfl) (by kernel_rfl)) ?_
  intro W base args ds gs before hval0 hW hcnd _
  have hval : ∀ (j : Nat) t v, Try.f8.params[j]? = some t → args[j]? = some v → Value.okWide Try.prog W .any base t v := hval0
  have hW' := hW
  obtain ⟨p, q, hA0, hV, rfl, hfz, hnd⟩ := hW
  have hA : DataW.TrodAll enc Try.prog W 0 (fun _ => true) true Try.f8.params.toList args.toList ds p := hA0
  rw [Try.params8] at hA hval
  obtain ⟨v0, vs0, d0, ds0, p0, q0, hargs, rfl, rfl, h0, r0⟩ := trodAll_cons hA
  obtain ⟨v1, vs1, d1, ds1, p1, q1, rfl, rfl, rfl, h1, r1⟩ := trodAll_cons r0
  obtain ⟨rfl, rfl, rfl⟩ := trodAll_nil r1
  obtain rfl : args = #[v0, v1] := by cases args; simp_all
  obtain ⟨rfl, rfl⟩ := trodVars_none hV
  obtain ⟨a0, len0, cap0, rfl⟩ := okWide_slice Try.underlying47 (hval 0 47 v0 rfl rfl)
  have k0 := h0
  have lt0 : ∀ x ∈ p0, x.block < W.heap.size := by obtain ⟨m, hm⟩ := k0; exact DataW.trod_lt m _ _ _ hm
  obtain ⟨z0, w0⟩ : ∃ zs, IsRow .i64 W a0 len0 cap0 zs := by
    obtain ⟨fuel, hf⟩ := h0
    rcases open_ints Try.underlying47 Try.underlying3 (by kernel_rfl) hf with ⟨hcs, _⟩ | ⟨x, l, c, zs, hcs, _, hl, hm, hz, _, hcell, hwz⟩
    · simp [Value.cells] at hcs
      obtain ⟨rfl, rfl, rfl⟩ := hcs
      exact ⟨[], .inl ⟨rfl, rfl, rfl, rfl⟩⟩
    · simp [Value.cells] at hcs
      obtain ⟨rfl, rfl, rfl⟩ := hcs
      exact ⟨zs, .inr ⟨_, rfl, hl, hm, by simpa using hz, hcell, hwz⟩⟩
  obtain ⟨a1, rfl, rfl, rfl, w1⟩ := open_int Try.underlying3 (hval 1 3 v1 rfl rfl) h1
  clear hA0 hval0
  refine (walk a0 len0 cap0 z0 a1 W w0 w1).mono fun e W' ⟨he, bel⟩ => ?_
  subst he
  exact ⟨_, rfl, _, _, _, [], _, [], hW', trodAll_mk1 (shut_bool Try.underlying4 _), (trodAll_cons_mk (Below.trod laidOut (by kernel_rfl) (of_decide_eq_true (by kernel_rfl)) k0 bel lt0) (trodAll_cons_mk (shut_int Try.underlying3 w1) trodAll_mk0)), rfl, bel.frame _, fun h => by cases h⟩

theorem over : Rows.tableOrdersRow.holds Try.pinned (OpenSpec.ofChange Rows.tableOrdersSpec) :=
  OpenClaim.holds_of_wide 8 Try.f8 rfl rfl rfl rfl rfl rfl rfl ⟨rfl, rfl, rfl, rfl, rfl⟩ rfl rfl rfl rfl rfl (by kernel_rfl) Try.func8 (by kernel_rfl)
    (of_decide_eq_true (by kernel_rfl)) (by unfold Func.isWrapper; first | (rw [if_pos (by decide +kernel)]; kernel_rfl) | (rw [if_neg (by decide +kernel)]; exact ⟨rfl, rfl⟩))
    (fun os started H enc _ => lifted os started H enc)

/-- ████ THE STATEMENT ████ -/
theorem proved : Rows.TableOrdersSaid := over
#print axioms proved
end Go.Proofs.Ytnoofichbadkoaa.tableOrders
