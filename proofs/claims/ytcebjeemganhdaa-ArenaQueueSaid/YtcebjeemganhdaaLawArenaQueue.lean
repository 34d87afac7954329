/-
  For every input the call of lavabolaw10.ArenaQueue returns true and leaves its arguments as they were; no condition.
-/
import Derived.Test.YtcebjeemganhdaaTold10
import Derived.Test.YtcebjeemganhdaaRows
import Derived.WalkKit
import Derived.ProofKit
import Derived.OpenShut
import Derived.ShutString
import Derived.ChangeOld
import Derived.Below
namespace Go.Proofs.Ytcebjeemganhdaa.arenaQueue
open Go.ChangeShapes Go.WideShapes Go.ChangeAt Go.RowKit
open Go.ChangeMaps (open_string shut_string)
open Go.Proofs.Ytcebjeemganhdaa.Mem Go.Proofs.Ytcebjeemganhdaa.Blk Go.Proofs.Ytcebjeemganhdaa.Cells Go.Proofs.Ytcebjeemganhdaa.Orow Go.Proofs.Ytcebjeemganhdaa.TabM Go.Proofs.Ytcebjeemganhdaa.ArM Go.Proofs.Ytcebjeemganhdaa.ArC Go.Proofs.Ytcebjeemganhdaa.ArD Go.Proofs.Ytcebjeemganhdaa.ArR Go.Proofs.Ytcebjeemganhdaa.ArA Go.Proofs.Ytcebjeemganhdaa.ArB Go.Proofs.Ytcebjeemganhdaa.ArT Go.Proofs.Ytcebjeemganhdaa.ArN Go.Proofs.Ytcebjeemganhdaa.Told10 Go.Proofs.Ytcebjeemganhdaa.Stages
set_option linter.unusedVariables false

theorem own : ownKnob Try.prog.godebug = none := by kernel_rfl
theorem laidOut : laidOutB Try.prog = true := by kernel_rfl

/-- WHAT THE WALK IS TOLD OF A SLICE OF INTEGERS THAT CAME IN: it is nil; or it leads to a row of 'cap' cells, the numbers 'zs' (the first 'len' are its elements, the rest its spare room), each fitting its kind. -/
def IsRow (k : IntKind) (w : World) (a : Option Addr) (len cap : Nat) (zs : List Int) : Prop :=
  (a = none ∧ len = 0 ∧ cap = 0 ∧ zs = []) ∨
  ∃ x, a = some x ∧ len ≤ cap ∧ cap ≤ maxLen ∧ zs.length = cap ∧ (∀ i, i < zs.length → w.cell? (x.add i) = some (.int k (zs.getD i 0))) ∧ ∀ n ∈ zs, (Lit.int k n).wf = true

/-- Behind i times Take. -/
structure TS (a : Ar) (k i : Nat) : Prop where
  n : a.n = k
  q : a.Q = (List.range k).drop i
  u : ∀ x, x < k → (a.F x).st = 1 → x < i ∧ (a.F x).pg = (x : Int) ∧ (a.F x).pn = 0
theorem ts_zero (k : Nat) : TS (ArM.fresh k) k 0 := ⟨rfl, rfl, fun x hx h => by have h : (0 : Int) = 1 := h; omega⟩
theorem ts_step {a : Ar} {k i : Nat} (h : TS a k i) (hi : i < k) (hk : k ≤ 16) : a.takeC (i : Int) = (i : Int) ∧ TS (a.take (i : Int)) k (i + 1) := by
  have e : a.Q = i :: (List.range k).drop (i + 1) := by
    rw [h.q, List.drop_eq_getElem_cons (by simpa using hi), List.getElem_range]
  have ef : a.find (i : Int) = -1 := find_none fun x hx hs hp => by
    obtain ⟨h1, h2, _⟩ := h.u x (by rw [← h.n]; exact hx) hs
    omega
  have ec : a.can (i : Int) = true := by
    unfold Ar.can
    rw [ef, decide_eq_true (show (0 : Int) ≤ (i : Int) by omega), decide_eq_true (show (i : Int) < 48 by omega)]
    rfl
  have e2 : a.take (i : Int) = ⟨a.n, upd a.F i (fUsed (i : Int)), upd a.B i zeros, (List.range k).drop (i + 1)⟩ := by unfold Ar.take; rw [if_pos ec, e]; rfl
  refine ⟨by unfold Ar.takeC; rw [if_pos ec, e]; rfl, ?_⟩
  rw [e2]
  refine ⟨h.n, rfl, fun x hx hs => ?_⟩
  change (upd a.F i (fUsed (i : Int)) x).st = 1 at hs
  show _ ∧ (upd a.F i (fUsed (i : Int)) x).pg = _ ∧ (upd a.F i (fUsed (i : Int)) x).pn = 0
  by_cases ex : x = i
  · subst ex; rw [upd_same]; exact ⟨by omega, rfl, rfl⟩
  · rw [upd_other _ _ ex] at hs ⊢
    obtain ⟨h1, h2, h3⟩ := h.u x hx hs
    exact ⟨by omega, h2, h3⟩
/-- While frames are dropped: gs are free, in this order. -/
structure DS (a : Ar) (k : Nat) (gs : List Nat) : Prop where
  n : a.n = k
  q : a.Q = gs
  u : ∀ x, x < k → (a.F x).st = 1 → (a.F x).pg < 30 ∧ (a.F x).pn = 0
theorem ds_zero {a : Ar} {k : Nat} (h : TS a k k) (hk : k ≤ 16) : DS a k [] :=
  ⟨h.n, by rw [h.q]; exact List.drop_of_length_le (by simp), fun x hx hs => by
    obtain ⟨h1, h2, h3⟩ := h.u x hx hs
    exact ⟨by omega, h3⟩⟩
theorem ds_drop {a : Ar} {k f : Nat} {gs : List Nat} (h : DS a k gs) (hf : f < k) (hu : a.used (f : Int) = true) : a.dropC (f : Int) = 0 ∧ DS (a.drop (f : Int)) k (gs ++ [f]) := by
  obtain ⟨f', e, hf', hs⟩ := used_iff.1 hu
  obtain rfl : f' = f := by omega
  obtain ⟨_, hp⟩ := h.u f' hf hs
  have e1 : a.dropC (f' : Int) = 0 := by unfold Ar.dropC; rw [if_pos hu, Int.toNat_natCast, if_neg (by omega)]
  have e2 : a.drop (f' : Int) = a.dropF f' := by unfold Ar.drop; rw [if_pos e1, Int.toNat_natCast]
  rw [e2]
  refine ⟨e1, h.n, by show a.Q ++ [f'] = _; rw [h.q], fun x hx hs => ?_⟩
  change (upd a.F f' fFree x).st = 1 at hs
  show (upd a.F f' fFree x).pg < 30 ∧ (upd a.F f' fFree x).pn = 0
  by_cases ex : x = f'
  · subst ex; rw [upd_same] at hs; have hs : (0 : Int) = 1 := hs; omega
  · rw [upd_other _ _ ex] at hs ⊢; exact h.u x hx hs
theorem ds_stay {a : Ar} {k : Nat} {f : Int} {gs : List Nat} (h : DS a k gs) (hu : a.used f = false) : a.dropC f = 2 ∧ DS (a.drop f) k gs := by
  have e1 : a.dropC f = 2 := by unfold Ar.dropC; rw [hu]; rfl
  refine ⟨e1, ?_⟩
  have e2 : a.drop f = a := by unfold Ar.drop; rw [e1]; rfl
  rw [e2]
  exact h
/-- While they are taken again. -/
structure ES (a : Ar) (k : Nat) (gs : List Nat) (i : Nat) : Prop where
  n : a.n = k
  q : a.Q = gs.drop i
  u : ∀ x, x < k → (a.F x).st = 1 → (a.F x).pg < 30 + (i : Int)
theorem es_zero {a : Ar} {k : Nat} {gs : List Nat} (h : DS a k gs) : ES a k gs 0 := ⟨h.n, h.q, fun x hx hs => by have := (h.u x hx hs).1; omega⟩
theorem es_step {a : Ar} {k i : Nat} {gs : List Nat} (h : ES a k gs i) (hi : i < gs.length) (hl : gs.length ≤ 16) : a.takeC (30 + (i : Int)) = ((gs.getD i 0 : Nat) : Int) ∧ ES (a.take (30 + (i : Int))) k gs (i + 1) := by
  have e : a.Q = gs.getD i 0 :: gs.drop (i + 1) := by
    rw [h.q, List.drop_eq_getElem_cons hi, List.getD_eq_getElem?_getD, List.getElem?_eq_getElem hi]; rfl
  have ef : a.find (30 + (i : Int)) = -1 := find_none fun x hx hs hp => by
    have := h.u x (by rw [← h.n]; exact hx) hs
    omega
  have ec : a.can (30 + (i : Int)) = true := by
    unfold Ar.can
    rw [ef, decide_eq_true (show (0 : Int) ≤ 30 + (i : Int) by omega), decide_eq_true (show 30 + (i : Int) < 48 by omega)]
    rfl
  have e2 : a.take (30 + (i : Int)) = ⟨a.n, upd a.F (gs.getD i 0) (fUsed (30 + (i : Int))), upd a.B (gs.getD i 0) zeros, gs.drop (i + 1)⟩ := by unfold Ar.take; rw [if_pos ec, e]; rfl
  refine ⟨by unfold Ar.takeC; rw [if_pos ec, e]; rfl, ?_⟩
  rw [e2]
  refine ⟨h.n, rfl, fun x hx hs => ?_⟩
  change (upd a.F (gs.getD i 0) (fUsed (30 + (i : Int))) x).st = 1 at hs
  show (upd a.F (gs.getD i 0) (fUsed (30 + (i : Int))) x).pg < _
  by_cases ex : x = gs.getD i 0
  · rw [ex, upd_same]; show 30 + (i : Int) < _; omega
  · rw [upd_other _ _ ex] at hs ⊢
    have := h.u x hx hs
    omega
theorem es_end {a : Ar} {k : Nat} {gs : List Nat} (h : ES a k gs gs.length) : a.takeC 47 = -1 := by
  have e : a.Q = [] := by rw [h.q]; exact List.drop_length
  unfold Ar.takeC
  rw [e]
  split <;> rfl
theorem good_len {a : Ar} (h : ArM.Good a) : a.Q.length ≤ a.n := by rw [h.free]; exact cnt_le _ _
theorem kept_low {N : Nat} {w w' : World} (h : Below N w w') : Kept (N ≤ ·) w w' := ⟨h.os, h.tape, h.output, h.size, fun k _ hk => h.block k (by omega)⟩
theorem own_kept {N n s : Nat} {w w' : World} {t : TypeId} {v : Value} {xs : List Value} {G : Nat → Prop} (h : w.ownsRow N t s v n xs) (hk : Kept G w w') (hG : ∀ k, G k → k < N) : w'.ownsRow N t s v n xs := by
  refine ⟨h.1, ?_⟩
  rcases h.2 with h2 | ⟨g, cap, cur, e, hb, hg, hr⟩
  · exact .inl h2
  · exact .inr ⟨g, cap, cur, e, hb, (hk.block g (Array.getElem?_eq_some_iff.1 hg).1 fun x => by have := hG _ x; omega).trans hg, hr⟩
def ints (gs : List Nat) : List Int := gs.map fun x : Nat => (x : Int)
theorem ints_len (gs : List Nat) : (ints gs).length = gs.length := by simp [ints]
theorem ints_get (gs : List Nat) (j : Nat) : (ints gs).getD j 0 = ((gs.getD j 0 : Nat) : Int) := by
  unfold ints
  rw [List.getD_eq_getElem?_getD, List.getElem?_map, List.getD_eq_getElem?_getD]
  cases gs[j]? <;> rfl
theorem infoI : (Try.prog.info? 3).map (fun i => (i.zero, i.size, i.bytes)) = some (some (.int .i64 0), 1, 8) := by kernel_rfl
theorem sl_at {F : Nat → Prop} {w w' : World} {B n : Nat} {k : IntKind} {A : Option Addr} {zs : List Int} (h : Sl w B k A n zs) (hk : Kept F w w') (hA : ∀ x, A = some x → ¬ F x.block) : Sl w' w'.heap.size k A n zs :=
  ⟨h.1, fun hn => by
    obtain ⟨b, off, rfl, hb, hc⟩ := h.2 hn
    have h1 := hk.cellN (hc 0 hn) (hA ⟨b, off, none⟩ rfl)
    exact ⟨b, off, rfl, block_lt_of_cell h1, fun j hj => hk.cellN (hc j hj) (hA ⟨b, off, none⟩ rfl)⟩⟩
def TLoop (w : World) (B k g : Nat) (i : Value) (wx : World) : Prop := ∃ (j : Nat) (a : Ar), j + g = k ∧ i = .int .i64 (j : Int) ∧ ArAt wx (B ≤ ·) B a ∧ TS a k j ∧ Grow w wx
def DLoop (w : World) (B N k M g : Nat) (v i : Value) (wx : World) : Prop := ∃ (j : Nat) (a : Ar) (gs : List Nat), j + g = M ∧ i = .int .i64 (j : Int) ∧ ArAt wx (fun k => B ≤ k ∧ k < N) B a ∧ DS a k gs ∧ wx.ownsRow N 3 1 v gs.length ((ints gs).map (Value.int .i64)) ∧ N ≤ wx.heap.size ∧ Grow w wx
def ELoop (w : World) (B N k : Nat) (gs : List Nat) (A : Option Addr) (g : Nat) (i : Value) (wx : World) : Prop := ∃ (j : Nat) (a : Ar), j + g = gs.length ∧ i = .int .i64 (j : Int) ∧ ArAt wx (fun k => B ≤ k ∧ k < N) B a ∧ ES a k gs j ∧ Sl wx wx.heap.size .i64 A gs.length (ints gs) ∧ Grow w wx

/-! ### STEP 1: THE WALK: the Go text returns true, AND WRITES NOTHING THAT WAS THERE: 'Below w.heap.size w w'' (Derived/Below.lean: '.refl', '.alloc', '.drew', '.setCell' at a new block, '.trans'). Open each 'IsRow' by 'rcases' AHEAD of 'go_enter'; part every test ahead of the walk. -/
set_option maxHeartbeats 4000000 in
set_option maxRecDepth 100000 in
theorem walk (a0 : Int) (a1 : Option Addr) (len1 cap1 : Nat) (z1 : List Int) (w : World) (w0 : (Lit.int .i64 a0).wf = true) (w1 : IsRow .i64 w a1 len1 cap1 z1) :
    Calls Try.prog 6 #[.int .i64 a0, .slice a1 len1 cap1] w fun e w' => e = .returned (.bool true) ∧ Below w.heap.size w w' := by
  have k0 := bounds_i64 w0
  obtain ⟨hs, hlc, hcm, hwf⟩ := Sl.of_isRow w1
  obtain ⟨zs, hzs⟩ : ∃ zs, zs = z1.take len1 := ⟨_, rfl⟩
  rw [← hzs] at hs hwf
  have HS := Lib.hid hs
  unfold maxLen at hcm
  obtain ⟨q, hq, hq16⟩ := tmod_nat a0 16 (by omega)
  simp only [Int.cast_ofNat_Int] at hq
  obtain ⟨k, hk⟩ : ∃ k : Nat, k = 1 + q := ⟨_, rfl⟩
  have hkz : (1 : Int) + (q : Int) = (k : Int) := by omega
  have hk1 : 1 ≤ k := by omega
  have hk16 : k ≤ 16 := by omega
  have HN := Lib.hid (new_good (w := w) k (by omega))
  obtain ⟨B, hB⟩ : ∃ B, B = w.heap.size := ⟨_, rfl⟩
  have HB := Lib.hid hB
  have CN : Hid (Calls Try.prog 8 #[.int .i64 (k : Int)] w fun e w' => e = .returned (.pointer (some ⟨B, 0, none⟩)) ∧ ArAt w' (B ≤ ·) B (ArM.fresh k) ∧ Grow w w') := by rw [hB]; exact HN
  clear hB HN hzs hs hwf hk
  have hqz : (q : Int) < 16 := by omega
  go_enter Try.func6, Try.ntmps6
  go_wp2_with (go_at_call 8; (try rw [hkz]); (with_reducible refine CN.out.mono ?_); rintro e w1 ⟨rfl, ha, hg⟩; have HA := Lib.hid ha; have G0 := Lib.hid hg; clear ha hg)
  clear hq hqz hq16
  go_loopg [7] k (TLoop w B k)
  case atStart => exact ⟨0, _, by omega, rfl, HA.out, ts_zero k, G0.out⟩
  case round =>
    obtain ⟨j, a, hg, rfl, har, hts, hgr⟩ := hrel
    have HG := Lib.hid hg
    have HAR := Lib.hid har
    have HTS := Lib.hid hts
    have HGR := Lib.hid hgr
    clear hg har hts hgr
    by_cases hj : j < k
    · have hjz : (j : Int) < (k : Int) := by omega
      have HM := Lib.hid (ts_step HTS.out hj hk16)
      clear hj
      go_wp2_with (go_at_call 11; (with_reducible refine (t_take HAR.out _ HM.out.1 rfl).mono ?_); rintro e w2 ⟨rfl, ha, hk⟩; have HA2 := Lib.hid ha; have HK2 := Lib.hid hk; clear ha hk)
      go_roundg (gk - 1)
      case measure => have := HG.out; omega
      case rel => exact ⟨j + 1, _, by have := HG.out; omega, by go_num, HA2.out, HM.out.2, HGR.out.then HK2.out fun k hk e => by have := HB.out; omega⟩
    · obtain rfl : j = k := by have := HG.out; omega
      have HDS := Lib.hid (ds_zero HTS.out hk16)
      have HAN := Lib.hid (HAR.out.mono (H := fun k => B ≤ k ∧ k < wr.heap.size) fun k hk hb => ⟨hb, hk⟩)
      obtain ⟨N, hN⟩ : ∃ N, N = wr.heap.size := ⟨_, rfl⟩
      have HN := Lib.hid hN
      rw [← hN] at HAN
      have HBN : Hid (B < N) := by show B < N; rw [hN]; exact HAR.out.lt.1
      clear hj hN HTS HA G0 HAR
      obtain ⟨M, hM⟩ : ∃ M : Nat, M = min len1 40 := ⟨_, rfl⟩
      have HM := Lib.hid hM
      have hM1 : M ≤ len1 := by omega
      have hM40 : M ≤ 40 := by omega
      clear hM
      go_wp2_with (fail)
      go_loopg [8, 9] M (DLoop w B N j M)
      case atStart => exact ⟨0, _, [], by omega, rfl, HAN.out, HDS.out, World.ownsRow_nil _ _ _ _, by rw [HN.out]; exact Nat.le_refl _, HGR.out⟩
      case round =>
        clear HAN HDS HGR HG HN
        obtain ⟨i, a, gs, hg, rfl, har, hds, hown, hN, hgr⟩ := hrel
        have HG := Lib.hid hg
        have HAR := Lib.hid har
        have HDS := Lib.hid hds
        have HOW := Lib.hid hown
        have HN := Lib.hid hN
        have HGR := Lib.hid hgr
        have HLEN : Hid (gs.length ≤ 16) := by show _ ≤ _; have := good_len har.good; rw [hds.q, hds.n] at this; omega
        clear hg har hds hown hN hgr
        by_cases hi : i < M
        · have HI := Lib.hid hi
          have hiz : (i : Int) < (len1 : Int) := by omega
          have hi40 : (i : Int) < 40 := by omega
          obtain ⟨ob, oo, rfl, hob, hoc⟩ := HS.out.at_ (by omega)
          have c0 := HGR.out.cellN (hoc i (by omega)) id
          clear hoc
          generalize zs.getD i 0 = x at *
          obtain ⟨f, hfm, hfk⟩ := tmod_nat x j (by omega)
          have hfz : (f : Int) < (j : Int) := by omega
          cases hu : a.used (f : Int) with
          | true =>
            have HM2 := Lib.hid (ds_drop HDS.out hfk hu)
            have hjz1 : (1 : Int) ≤ (j : Int) := by omega
            clear hi hu
            go_wp2_with (first
              | (go_at_call 21; (with_reducible refine (t_drop HAR.out _ HM2.out.1 rfl).mono ?_); rintro e w2 ⟨rfl, ha, hk⟩; have HA2 := Lib.hid ha; have HO2 := Lib.hid (own_kept HOW.out hk fun k hk => hk.2); have HK2 := Lib.hid hk; clear ha hk)
              | (at_builtin; refine wpList_append_one rfl _ _ 45 rfl N 3 (.int .i64 0) 8 Try.underlying45 infoI rfl _ gs.length _ rfl (World.ownsRow.alloc HO2.out _) w2.heap.size (.int .i64 (f : Int)) rfl (cell_new1 _ _ _) rfl (by have := HLEN.out; unfold maxLen; omega) (by have := HLEN.out; omega) (by have := HN.out; have := HK2.out.size; simp; omega) ?_; intro g2 cap2 w3 hown hbel; have HOW3 := Lib.hid hown; have HBW := Lib.hid hbel; clear hown hbel))
            go_roundg (gk - 1)
            case measure => have := HG.out; have := HI.out; omega
            case rel =>
              have hga : Grow w2 (w2.alloc (.cells #[.int .i64 (f : Int)] 3)) := (Kept.refl _ _).alloc _
              refine ⟨i + 1, _, gs ++ [f], by have := HG.out; have := HI.out; omega, by go_num, (HA2.out.grow hga).kept (kept_low HBW.out) fun k hk e => by omega, HM2.out.2, ?_, ?_, ?_⟩
              · have := HOW3.out
                rw [show (gs ++ [f]).length = gs.length + 1 by simp, show (ints (gs ++ [f])).map (Value.int .i64) = (ints gs).map (Value.int .i64) ++ [Value.int .i64 (f : Int)] by simp [ints]]
                exact this
              · have h1 := HN.out
                have h2 := HK2.out.size
                have h3 := hga.size
                have h4 := HBW.out.size
                omega
              · exact ((HGR.out.then HK2.out fun k hk e => by have := HB.out; omega).trans hga).then (kept_low HBW.out) fun k hk e => by have := HB.out; have := HBN.out; omega
          | false =>
            have HM2 := Lib.hid (ds_stay HDS.out hu)
            have hjz1 : (1 : Int) ≤ (j : Int) := by omega
            clear hi hu
            go_wp2_with (go_at_call 21; (with_reducible refine (t_drop HAR.out _ HM2.out.1 rfl).mono ?_); rintro e w2 ⟨rfl, ha, hk⟩; have HA2 := Lib.hid ha; have HO2 := Lib.hid (own_kept HOW.out hk fun k hk => hk.2); have HK2 := Lib.hid hk; clear ha hk)
            go_roundg (gk - 1)
            case measure => have := HG.out; have := HI.out; omega
            case rel => exact ⟨i + 1, _, gs, by have := HG.out; have := HI.out; omega, by go_num, HA2.out, HM2.out.2, HO2.out, by have h1 := HN.out; have h2 := HK2.out.size; omega, HGR.out.then HK2.out fun k hk e => by have := HB.out; omega⟩
        · obtain rfl : i = M := by have := HG.out; omega
          have HES := Lib.hid (es_zero HDS.out)
          obtain ⟨A, c, rfl, hsl⟩ := Sl.of_row1 (n := gs.length) HOW.out
          have HSL := Lib.hid hsl
          have HAN : Hid (∀ x, A = some x → N ≤ x.block) := fun x e => (HOW.out.lt x.block (by rw [e]; rfl)).1
          have HF := free_any HAR.out
          rw [HDS.out.q] at HF
          have HF' := Lib.hid HF
          have hlz : (gs.length : Int) ≤ 16 := by have := HLEN.out; omega
          clear hsl HF hi
          have hend : (len1 : Int) ≤ (i : Int) ∨ ((i : Int) < (len1 : Int) ∧ (40 : Int) ≤ (i : Int)) := by have := HM.out; omega
          have hfin : Hid (∀ wx : World, ∀ a' : Ar, ArAt wx (fun k => B ≤ k ∧ k < N) B a' → ES a' j gs gs.length → Calls Try.prog 11 #[.pointer (some ⟨B, 0, none⟩), .int .i64 47] wx (APost (fun k => B ≤ k ∧ k < N) B wx (.int .i64 (-1)) (a'.take 47))) := fun wx a' ha he => t_take ha 47 (es_end he) rfl
          rcases hend with h | ⟨h, h'⟩
          · go_wp2_with (go_at_call 30; (with_reducible refine HF'.out.mono ?_); rintro e w' ⟨rfl, rfl⟩)
            go_loopg [11] gs.length (ELoop w B N j gs A)
            case atStart => exact ⟨0, _, by omega, rfl, HAR.out, HES.out, HSL.out, HGR.out⟩
            case round =>
              clear HAR HDS HOW HGR HES HSL HF' HG
              obtain ⟨p, a, hg, rfl, har, hes, hsl, hgr⟩ := hrel
              have HG := Lib.hid hg
              have HAR := Lib.hid har
              have HES := Lib.hid hes
              have HSL := Lib.hid hsl
              have HGR := Lib.hid hgr
              clear hg har hes hsl hgr
              by_cases hp : p < gs.length
              · have hpz : (p : Int) < (gs.length : Int) := by omega
                have HPP := Lib.hid hp
                obtain ⟨gb, go, rfl, hgb, hgc⟩ := HSL.out.at_ (by omega)
                have r0 := hgc p hp
                rw [ints_get] at r0
                have HM2 := Lib.hid (es_step HES.out hp HLEN.out)
                have HR0 := Lib.hid r0
                clear hgc hp r0
                have hgG : ¬ (B ≤ gb ∧ gb < N) := by have h1 : N ≤ gb := HAN.out _ rfl; omega
                have q0 := up_cell (F := fun k => B ≤ k ∧ k < N) (w := wr.drew) (p := ⟨gb, go + p, none⟩) HR0.out hgG
                go_upto_region 22 with (fail)
                refine wp_region_stages (Kept fun k => B ≤ k ∧ k < N) (kept_refl _) (kept_trans _) [([0, 1, 2, 4, 5, 6, 7], 3)] [8] (by kernel_rfl) (by kernel_rfl) ?_
                simp only [selSt, sel, List.map_cons, List.map_nil, List.getD_cons_succ, List.getD_cons_zero]
                refine st_cons fun K1 hK1 => ?_
                repeat (go_big_quiet_step (fail))
                refine wpQuiet_nil ?_
                clear q0
                go_wp2_with (go_at_call 11; (with_reducible refine (t_take (HAR.out.grow (Kept.drew' wr)) _ HM2.out.1 rfl).mono ?_); rintro e w2 ⟨rfl, ha, hk⟩; have HA2 := Lib.hid ha; have HK2 := Lib.hid hk; clear ha hk)
                refine norm_up (hK1 _ _ HK2.out (st_nil fun K4 hK4 => ?_))
                clear hK1 K1
                repeat (go_big_quiet_step (fail))
                refine wpQuiet_nil (hK4 _ ?_)
                clear hK4 K4
                go_wp2
                go_roundg (gk - 1)
                case measure => have := HG.out; have := HPP.out; omega
                case rel => exact ⟨p + 1, _, by have := HG.out; have := HPP.out; omega, by go_num, HA2.out, HM2.out.2, sl_at HSL.out ((Kept.drew' wr).trans HK2.out) (fun x hx hb => by have h1 : N ≤ x.block := HAN.out x hx; omega), HGR.out.drew.then HK2.out fun k hk e => by have := HB.out; omega⟩
              · obtain rfl : p = gs.length := by have := HG.out; omega
                clear hp
                go_wp2_with (first
                  | (go_at_call 10; (with_reducible refine (told_any _).mono ?_); rintro e w3 ⟨rfl, hge⟩; have HGE := Lib.hid hge; clear hge)
                  | (go_at_call 11; (with_reducible refine (hfin.out _ _ (HAR.out.grow HGE.out) HES.out).mono ?_); rintro e w4 ⟨rfl, _, hk⟩; have HK4 := Lib.hid hk; clear hk))
                go_ret
                exact ⟨rfl, Grow.below ((HGR.out.trans HGE.out).then HK4.out fun k hk e => by have := HB.out; omega)⟩
          · go_wp2_with (go_at_call 30; (with_reducible refine HF'.out.mono ?_); rintro e w' ⟨rfl, rfl⟩)
            go_loopg [11] gs.length (ELoop w B N j gs A)
            case atStart => exact ⟨0, _, by omega, rfl, HAR.out, HES.out, HSL.out, HGR.out⟩
            case round =>
              clear HAR HDS HOW HGR HES HSL HF' HG
              obtain ⟨p, a, hg, rfl, har, hes, hsl, hgr⟩ := hrel
              have HG := Lib.hid hg
              have HAR := Lib.hid har
              have HES := Lib.hid hes
              have HSL := Lib.hid hsl
              have HGR := Lib.hid hgr
              clear hg har hes hsl hgr
              by_cases hp : p < gs.length
              · have hpz : (p : Int) < (gs.length : Int) := by omega
                have HPP := Lib.hid hp
                obtain ⟨gb, go, rfl, hgb, hgc⟩ := HSL.out.at_ (by omega)
                have r0 := hgc p hp
                rw [ints_get] at r0
                have HM2 := Lib.hid (es_step HES.out hp HLEN.out)
                have HR0 := Lib.hid r0
                clear hgc hp r0
                have hgG : ¬ (B ≤ gb ∧ gb < N) := by have h1 : N ≤ gb := HAN.out _ rfl; omega
                have q0 := up_cell (F := fun k => B ≤ k ∧ k < N) (w := wr.drew) (p := ⟨gb, go + p, none⟩) HR0.out hgG
                go_upto_region 22 with (fail)
                refine wp_region_stages (Kept fun k => B ≤ k ∧ k < N) (kept_refl _) (kept_trans _) [([0, 1, 2, 4, 5, 6, 7], 3)] [8] (by kernel_rfl) (by kernel_rfl) ?_
                simp only [selSt, sel, List.map_cons, List.map_nil, List.getD_cons_succ, List.getD_cons_zero]
                refine st_cons fun K1 hK1 => ?_
                repeat (go_big_quiet_step (fail))
                refine wpQuiet_nil ?_
                clear q0
                go_wp2_with (go_at_call 11; (with_reducible refine (t_take (HAR.out.grow (Kept.drew' wr)) _ HM2.out.1 rfl).mono ?_); rintro e w2 ⟨rfl, ha, hk⟩; have HA2 := Lib.hid ha; have HK2 := Lib.hid hk; clear ha hk)
                refine norm_up (hK1 _ _ HK2.out (st_nil fun K4 hK4 => ?_))
                clear hK1 K1
                repeat (go_big_quiet_step (fail))
                refine wpQuiet_nil (hK4 _ ?_)
                clear hK4 K4
                go_wp2
                go_roundg (gk - 1)
                case measure => have := HG.out; have := HPP.out; omega
                case rel => exact ⟨p + 1, _, by have := HG.out; have := HPP.out; omega, by go_num, HA2.out, HM2.out.2, sl_at HSL.out ((Kept.drew' wr).trans HK2.out) (fun x hx hb => by have h1 : N ≤ x.block := HAN.out x hx; omega), HGR.out.drew.then HK2.out fun k hk e => by have := HB.out; omega⟩
              · obtain rfl : p = gs.length := by have := HG.out; omega
                clear hp
                go_wp2_with (first
                  | (go_at_call 10; (with_reducible refine (told_any _).mono ?_); rintro e w3 ⟨rfl, hge⟩; have HGE := Lib.hid hge; clear hge)
                  | (go_at_call 11; (with_reducible refine (hfin.out _ _ (HAR.out.grow HGE.out) HES.out).mono ?_); rintro e w4 ⟨rfl, _, hk⟩; have HK4 := Lib.hid hk; clear hk))
                go_ret
                exact ⟨rfl, Grow.below ((HGR.out.trans HGE.out).then HK4.out fun k hk e => by have := HB.out; omega)⟩

/-! ### THE ROW's STEP: WRITTEN OUT: LEAVE IT -/
set_option maxRecDepth 100000 in
theorem lifted (os : Os) (started : os.Started) (H : Type) (enc : TypeId × Value → H) :
    ReturnsInHanded {} Try.checked os 6 .any (Rows.arenaQueueSpec.pre6 enc Try.prog Try.f6 Rows.arenaQueueRow.domain false) (Rows.arenaQueueSpec.post enc Try.prog Try.f6 false true false false) := by
  refine returnsInHanded_of_change (C := Try.checked) own started (by kernel_rfl) Try.func6
    (ChangeSpec.witness6 (enc := enc) (C := Try.checked) false ⟨#[], #[.int .i64 0, .slice none 0 0], []⟩ 8 (by kernel_rfl) (by kernel_rfl) (by kernel_rfl) (by kernel_rfl)) ?_
  intro W base args ds gs before hval0 hW hcnd _
  have hval : ∀ (j : Nat) t v, Try.f6.params[j]? = some t → args[j]? = some v → Value.okWide Try.prog W .any base t v := hval0
  have hW' := hW
  obtain ⟨p, q, hA0, hV, rfl, hfz, hnd⟩ := hW
  have hA : DataW.TrodAll enc Try.prog W 0 (fun _ => true) true Try.f6.params.toList args.toList ds p := hA0
  rw [Try.params6] at hA hval
  obtain ⟨v0, vs0, d0, ds0, p0, q0, hargs, rfl, rfl, h0, r0⟩ := trodAll_cons hA
  obtain ⟨v1, vs1, d1, ds1, p1, q1, rfl, rfl, rfl, h1, r1⟩ := trodAll_cons r0
  obtain ⟨rfl, rfl, rfl⟩ := trodAll_nil r1
  obtain rfl : args = #[v0, v1] := by cases args; simp_all
  obtain ⟨rfl, rfl⟩ := trodVars_none hV
  obtain ⟨a0, rfl, rfl, rfl, w0⟩ := open_int Try.underlying3 (hval 0 3 v0 rfl rfl) h0
  obtain ⟨a1, len1, cap1, rfl⟩ := okWide_slice Try.underlying45 (hval 1 45 v1 rfl rfl)
  have k1 := h1
  have lt1 : ∀ x ∈ p1, x.block < W.heap.size := by obtain ⟨m, hm⟩ := k1; exact DataW.trod_lt m _ _ _ hm
  obtain ⟨z1, w1⟩ : ∃ zs, IsRow .i64 W a1 len1 cap1 zs := by
    obtain ⟨fuel, hf⟩ := h1
    rcases open_ints Try.underlying45 Try.underlying3 (by kernel_rfl) hf with ⟨hcs, _⟩ | ⟨x, l, c, zs, hcs, _, hl, hm, hz, _, hcell, hwz⟩
    · simp [Value.cells] at hcs
      obtain ⟨rfl, rfl, rfl⟩ := hcs
      exact ⟨[], .inl ⟨rfl, rfl, rfl, rfl⟩⟩
    · simp [Value.cells] at hcs
      obtain ⟨rfl, rfl, rfl⟩ := hcs
      exact ⟨zs, .inr ⟨_, rfl, hl, hm, by simpa using hz, hcell, hwz⟩⟩
  clear hA0 hval0
  refine (walk a0 a1 len1 cap1 z1 W w0 w1).mono fun e W' ⟨he, bel⟩ => ?_
  subst he
  exact ⟨_, rfl, _, _, _, [], _, [], hW', trodAll_mk1 (shut_bool Try.underlying4 _), (trodAll_cons_mk (shut_int Try.underlying3 w0) (trodAll_cons_mk (Below.trod laidOut (by kernel_rfl) (of_decide_eq_true (by kernel_rfl)) k1 bel lt1) trodAll_mk0)), rfl, bel.frame _, fun h => by cases h⟩

theorem over : Rows.arenaQueueRow.holds Try.pinned (OpenSpec.ofChange Rows.arenaQueueSpec) :=
  OpenClaim.holds_of_wide 6 Try.f6 rfl rfl rfl rfl rfl rfl rfl ⟨rfl, rfl, rfl, rfl, rfl⟩ rfl rfl rfl rfl rfl (by kernel_rfl) Try.func6 (by kernel_rfl)
    (of_decide_eq_true (by kernel_rfl)) (by unfold Func.isWrapper; first | (rw [if_pos (by decide +kernel)]; kernel_rfl) | (rw [if_neg (by decide +kernel)]; exact ⟨rfl, rfl⟩))
    (fun os started H enc _ => lifted os started H enc)

/-- ████ THE STATEMENT ████ -/
theorem proved : Rows.ArenaQueueSaid := over
#print axioms proved
end Go.Proofs.Ytcebjeemganhdaa.arenaQueue
