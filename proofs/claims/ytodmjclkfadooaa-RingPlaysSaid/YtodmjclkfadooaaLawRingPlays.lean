/-
  For every input the call of lavabolaw8.RingPlays returns true and leaves its arguments as they were; no condition.
-/
import Derived.Test.YtodmjclkfadooaaTold8
import Derived.Test.YtodmjclkfadooaaRingRef
import Derived.Test.YtodmjclkfadooaaRingOps
import Derived.Test.YtodmjclkfadooaaInts
import Derived.Test.YtodmjclkfadooaaRows
import Derived.WalkKit
import Derived.ProofKit
import Derived.OpenShut
import Derived.ShutString
import Derived.ChangeOld
import Derived.Below
namespace Go.Proofs.Ytodmjclkfadooaa.ringPlays
open Go.ChangeShapes Go.WideShapes Go.ChangeAt Go.RowKit
open Go.ChangeMaps (open_string shut_string)
open Go.Conc
open Go.Proofs.Ytodmjclkfadooaa.Mem Go.Proofs.Ytodmjclkfadooaa.Blk Go.Proofs.Ytodmjclkfadooaa.Rowed Go.Proofs.Ytodmjclkfadooaa.Chan Go.Proofs.Ytodmjclkfadooaa.RingC Go.Proofs.Ytodmjclkfadooaa.RingT Go.Proofs.Ytodmjclkfadooaa.RingF Go.Proofs.Ytodmjclkfadooaa.RingR Go.Proofs.Ytodmjclkfadooaa.IntsC Go.Proofs.Ytodmjclkfadooaa.Told8 Go.Proofs.Ytodmjclkfadooaa.Ops Go.Proofs.Ytodmjclkfadooaa.Stages
set_option linter.unusedVariables false

theorem own : ownKnob Try.prog.godebug = none := by kernel_rfl
theorem laidOut : laidOutB Try.prog = true := by kernel_rfl

/-- WHAT THE WALK IS TOLD OF A SLICE OF INTEGERS THAT CAME IN: it is nil; or it leads to a row of 'cap' cells, the numbers 'zs' (the first 'len' are its elements, the rest its spare room), each fitting its kind. -/
def IsRow (k : IntKind) (w : World) (a : Option Addr) (len cap : Nat) (zs : List Int) : Prop :=
  (a = none ∧ len = 0 ∧ cap = 0 ∧ zs = []) ∨
  ∃ x, a = some x ∧ len ≤ cap ∧ cap ≤ maxLen ∧ zs.length = cap ∧ (∀ i, i < zs.length → w.cell? (x.add i) = some (.int k (zs.getD i 0))) ∧ ∀ n ∈ zs, (Lit.int k n).wf = true

theorem kind7 (a : Int) : ∃ (m K : Int), a.tmod 7 = m ∧ -7 < m ∧ m < 7 ∧ (m + 7).tmod 7 = K ∧ 0 ≤ K ∧ K < 7 := by
  have key : ∀ b : Int, 0 ≤ b → 0 ≤ b.tmod 7 ∧ b.tmod 7 < 7 := fun b hb => by
    rw [IntWalk.rem_in _ _ hb]
    omega
  have hb : -7 < a.tmod 7 ∧ a.tmod 7 < 7 := by
    by_cases h : 0 ≤ a
    · have := key a h
      omega
    · have := key (-a) (by omega)
      rw [Int.neg_tmod] at this
      omega
  obtain ⟨h0, h8⟩ := key (a.tmod 7 + 7) (by omega)
  exact ⟨_, _, rfl, hb.1, hb.2, rfl, h0, h8⟩
/-- Both rings: what waits is the same. -/
structure RTwo (w : World) (B d m : Nat) (zs : List Int) (wx : World) : Prop where
  a : RingAt wx B d zs
  r : RRef wx m (· = d) zs
  l : zs.length ≤ 7
  g : Grow w wx
structure Apart (w : World) (B d m : Nat) : Prop where
  dm : d ≠ m
  ld : w.heap.size ≤ d
  lm : w.heap.size ≤ m
  lB : w.heap.size ≤ B
/-- What either ring's calls may write. -/
def AllF (B d m : Nat) (w : World) (k : Nat) : Prop := RF B d w k ∨ k = m
theorem sl_at {F : Nat → Prop} {w w' : World} {B n : Nat} {k : IntKind} {A : Option Addr} {zs : List Int} (h : Sl w B k A n zs) (hk : Kept F w w') (hA : ∀ x, A = some x → ¬ F x.block) : Sl w' B k A n zs :=
  ⟨h.1, fun hn => by
    obtain ⟨b, off, rfl, hb, hc⟩ := h.2 hn
    exact ⟨b, off, rfl, hb, fun j hj => hk.cellN (hc j hj) (hA ⟨b, off, none⟩ rfl)⟩⟩
section
variable {w wx wy wz : World} {B d m : Nat} {zs us : List Int}
theorem ref_notChan (h : RRef wx m (· = d) zs) : ¬ IsChan wx m := by
  obtain ⟨A, c, ⟨cur, t, hb, _⟩, _⟩ := h.hd
  exact notChan_cells hb
theorem RTwo.mid (h : RTwo w B d m zs wx) (hk : Kept (RF B d wx) wx wy) : RRef wy m (· = d) zs := h.r.kept hk fun k x => by
  rcases x with e | ⟨_, x⟩
  · exact .inl e
  · exact .inr x
theorem RTwo.op (h : RTwo w B d m zs wx) (ap : Apart w B d m) (hr : RingAt wy B d us) (hk : Kept (RF B d wx) wx wy) (hq : RRef wz m (· = d) us) (hk2 : Kept (· = m) wy wz) (hl : us.length ≤ 7) : RTwo w B d m us wz :=
  ⟨hr.kept hk2 ap.dm (fun k e => by subst e; exact ref_notChan (h.mid hk)), hq, hl, (RF.final h.g hk ap.lB ap.ld).then hk2 fun i hi e => by have := ap.lm; omega⟩
theorem RTwo.grow (h : RTwo w B d m zs wx) (hk : Grow wx wy) : RTwo w B d m zs wy := ⟨h.a.grow hk, h.r.grow hk, h.l, h.g.trans hk⟩
theorem RTwo.low (h : RTwo w B d m zs wx) : d < wx.heap.size ∧ m < wx.heap.size := ⟨h.a.lt, h.r.lt⟩
end
def PInv (w : World) (B d m : Nat) (wx : World) : Prop := ∃ zs, RTwo w B d m zs wx
def PLoop (w : World) (B d m M g : Nat) (i : Value) (wx : World) : Prop := ∃ j : Nat, j + g = M ∧ i = .int .i64 (j : Int) ∧ PInv w B d m wx

/-! ### STEP 1: THE WALK: the Go text returns true, AND WRITES NOTHING THAT WAS THERE: 'Below w.heap.size w w'' (Derived/Below.lean: '.refl', '.alloc', '.drew', '.setCell' at a new block, '.trans'). Open each 'IsRow' by 'rcases' AHEAD of 'go_enter'; part every test ahead of the walk. -/
set_option maxHeartbeats 8000000 in
set_option maxRecDepth 100000 in
theorem walk (a0 : Option Addr) (len0 cap0 : Nat) (w : World) (w0 : OpsAt w a0 len0 cap0) :
    Calls Try.prog 4 #[.slice a0 len0 cap0] w fun e w' => e = .returned (.bool true) ∧ Below w.heap.size w w' := by
  obtain ⟨hlc, hcm, hops⟩ := w0
  unfold maxLen at hcm
  have HOPS := Lib.hid hops
  clear hops
  go_enter Try.func4, Try.ntmps4
  by_cases h200 : 200 < len0
  · have h200z : (200 : Int) < (len0 : Int) := by omega
    go_wp2_with (first
      | (go_at_call 8; (with_reducible refine gnew_any.mono ?_); rintro e w1 ⟨rfl, hr, hg⟩; have G0 := Lib.hid hg; clear hr hg)
      | (go_at_call 12; (with_reducible refine (told_any _).mono ?_); rintro e w3 ⟨rfl, hge⟩; have HGE := Lib.hid hge; clear hge))
    go_ret
    exact ⟨rfl, Grow.below ((G0.out.trans ((Kept.refl _ _).alloc _)).trans HGE.out)⟩
  · have h200z : (len0 : Int) ≤ 200 := by omega
    clear h200
    go_upto_block 0 with (go_at_call 8; (with_reducible refine gnew_any.mono ?_); rintro e w1 ⟨rfl, hr, hg⟩; have HR0 := Lib.hid (hr _ (Nat.le_refl _)); have G0 := Lib.hid hg; clear hr hg)
    have hd1 := HR0.out.lt
    have HAP : Hid (Apart w w.heap.size w.heap.size w1.heap.size) := ⟨by omega, Nat.le_refl _, G0.out.size, Nat.le_refl _⟩
    have hga : Grow w1 (w1.alloc (.cells #[.slice none 0 0] 34)) := (Kept.refl _ _).alloc _
    have HT0 : Hid (RTwo w w.heap.size w.heap.size w1.heap.size [] (w1.alloc (.cells #[.slice none 0 0] 34))) :=
      ⟨HR0.out.grow hga, ⟨⟨none, 0, Row.of_blk (Blk.new w1 _ [.slice none 0 0]) rfl (fun i hi => by
        have : i = 0 := by omega
        subst this; rfl), Sl.nil _ _ _ _, ⟨Nat.le_refl _, Nat.zero_le _⟩, fun x hx => by cases hx⟩, fun e => HAP.out.dm e.symm⟩, Nat.zero_le _, G0.out.trans hga⟩
    clear hga hd1 G0 HR0
    generalize w1.alloc (.cells #[.slice none 0 0] 34) = w2 at HT0 ⊢
    generalize w1.heap.size = m at HAP HT0 ⊢
    obtain ⟨B, hB⟩ : ∃ B, B = w.heap.size := ⟨_, rfl⟩
    have HBW := Lib.hid hB
    rw [← hB] at HAP HT0 ⊢
    clear hB
    go_wp2_with (fail)
    go_loopg [5] len0 (PLoop w B B m len0)
    case atStart => exact ⟨0, by omega, rfl, [], HT0.out⟩
    case round =>
      obtain ⟨j, hg, rfl, zs, htw⟩ := hrel
      have HG := Lib.hid hg
      have HT := Lib.hid htw
      clear hg htw HT0
      by_cases hj : j < len0
      · have hjz : (j : Int) < (len0 : Int) := by omega
        obtain ⟨ab, ao, rfl, hab, hall⟩ := HOPS.out (by omega)
        obtain ⟨x, hx⟩ := hall j hj
        have hkx : ∀ o v, w.cell? ⟨ab, o, none⟩ = some v → wr.cell? ⟨ab, o, none⟩ = some v := fun o v h => HT.out.g.cellN h id
        have ck := hkx _ _ hx.k
        have cp := hkx _ _ hx.p
        have kB := hx.kB
        have hpB := hx.pB
        have HAB : Hid (¬ AllF B B m wr ab) := fun h => by
          have h1 := HBW.out
          have h2 := HAP.out.lm
          rcases h with (e | ⟨e, _⟩) | e <;> omega
        obtain ⟨km, K, hkm, hk1, hk2, hK, hK0, hK7⟩ := kind7 x.k
        clear hall hx hkx
        go_upto_block 2 with (fail)
        clear hK hkm hk1 hk2 ck kB
        generalize x.p = f at *
        have cpd : wr.drew.cell? ⟨ab, ao + j * 2 + 1, none⟩ = some (.int .i64 f) := cp
        have HCP := Lib.hid cpd
        have HTD := Lib.hid (HT.out.grow (Kept.drew' wr))
        have HLOW := Lib.hid HTD.out.low
        have HAB2 : Hid (¬ AllF B B m wr.drew ab) := HAB.out
        have HJ := Lib.hid hj
        clear cpd cp hjz hj
        go_cut [] from 30 to 72 (fun wx => PInv w B B m wx)
        case first =>
          have hjz : (j : Int) < (len0 : Int) := by have := HJ.out; omega
          by_cases hk5 : K < 5
          · have CD := Lib.hid (gtouch_any HTD.out.a f HTD.out.l)
            have CR : Hid (∀ wy, Kept (RF B B wr.drew) wr.drew wy → Calls Try.prog 14 #[.pointer (some ⟨m, 0, none⟩), .int .i64 f] wy (QPost m (· = B) wy (toldBy zs f) (waitBy zs f))) := fun wy hk => qtouch_any (HTD.out.mid hk) f HTD.out.l (fun k e => by have h1 := HLOW.out.1; have h2 := hk.size; omega)
            have HWL := Lib.hid (wait_len HTD.out.l f)
            have HTL : Hid ((toldBy zs f).length ≤ 100000) := by
              have := HTD.out.l
              show (toldBy zs f).length ≤ 100000
              unfold toldBy
              split
              · simp; omega
              · simp
            generalize toldBy zs f = us at *
            generalize waitBy zs f = ys at *
            clear hK0 hK7
            go_upto_region 13 with (fail)
            refine wp_region_stages (Kept (AllF B B m wr.drew)) (kept_refl _) (kept_trans _) [([0, 1, 2, 3, 4, 5, 7, 8, 9, 10, 11, 12], 6), ([], 13), ([], 14)] [15] (by kernel_rfl) (by kernel_rfl) ?_
            simp only [selSt, sel, List.map_cons, List.map_nil, List.getD_cons_succ, List.getD_cons_zero]
            refine st_cons fun K1 hK1 => ?_
            have u0 := up_cell (F := AllF B B m wr.drew) (w := wr.drew) (p := ⟨ab, ao + j * 2 + 1, none⟩) HCP.out HAB2.out
            repeat (go_big_quiet_step (fail))
            refine wpQuiet_nil ?_
            clear u0
            go_wp2_with (go_at_call 9; (with_reducible refine CD.out.mono ?_); rintro e w4 ⟨A4, c4, rfl, hs, hn, hr, hk⟩; have HR4 := Lib.hid hr; have HK4 := Lib.hid hk; have HS4 := Lib.hid hs; have HN4 := Lib.hid (fun x (hx : A4 = some x) (hm : x.block = m) => (by have h1 := hn x hx; have h2 := HLOW.out.2; omega : False)); clear hs hn hr hk)
            refine norm_up (hK1 _ _ (HK4.out.mono fun _ _ h => .inl h) (st_cons fun K2 hK2 => wpQuiet_nil ?_))
            clear hK1 K1
            go_wp2_with (go_at_call 14; (with_reducible refine (CR.out _ HK4.out).mono ?_); rintro e w5 ⟨A5, c5, rfl, hs, hr, hk⟩; have HR5 := Lib.hid hr; have HK5 := Lib.hid hk; have HS5 := Lib.hid hs; have HS6 := Lib.hid (sl_at HS4.out hk HN4.out); clear hs hr hk)
            refine norm_up (hK2 _ _ (HK5.out.mono fun _ _ h => .inr h) (st_cons fun K3 hK3 => wpQuiet_nil ?_))
            clear hK2 K2
            go_wp2_with (go_at_call 13; (with_reducible refine (ints_true A4 A5 us.length c4 c5 _ _ _ HTL.out HS6.out HS5.out).mono ?_); rintro e w6 ⟨rfl, hk⟩; have HK6 := Lib.hid hk; clear hk)
            refine norm_up (hK3 _ _ (Grow.kept HK6.out) (st_nil fun K4 hK4 => ?_))
            clear hK3 K3
            repeat (go_big_quiet_step (fail))
            refine wpQuiet_nil (hK4 _ ?_)
            clear hK4 K4
            go_wp2
            go_meet
            exact ⟨_, (HTD.out.op HAP.out HR4.out HK4.out HR5.out HK5.out HWL.out).grow HK6.out⟩
          · by_cases hk6 : K = 5
            · subst hk6
              have CD := Lib.hid (gforget_any HTD.out.a f)
              have CR : Hid (∀ wy, Kept (RF B B wr.drew) wr.drew wy → Calls Try.prog 15 #[.pointer (some ⟨m, 0, none⟩), .int .i64 f] wy fun e w' => e = .returned (.int .i64 (cntBy zs f : Int)) ∧ RRef w' m (· = B) (keepBy zs f) ∧ Kept (· = m) wy w') := fun wy hk => qforget_any (HTD.out.mid hk) f HTD.out.l (fun k e => by have h1 := HLOW.out.1; have h2 := hk.size; omega)
              have HWL : Hid ((keepBy zs f).length ≤ 7) := Nat.le_trans (keep_len zs f) HTD.out.l
              generalize cntBy zs f = cn at *
              generalize keepBy zs f = ys at *
              clear hK0 hK7 hk5
              go_upto_region 16 with (fail)
              refine wp_region_stages (Kept (AllF B B m wr.drew)) (kept_refl _) (kept_trans _) [([0, 1, 2, 3, 4, 5, 7, 8, 9, 10, 11, 12], 6), ([], 13)] [14] (by kernel_rfl) (by kernel_rfl) ?_
              simp only [selSt, sel, List.map_cons, List.map_nil, List.getD_cons_succ, List.getD_cons_zero]
              refine st_cons fun K1 hK1 => ?_
              have u0 := up_cell (F := AllF B B m wr.drew) (w := wr.drew) (p := ⟨ab, ao + j * 2 + 1, none⟩) HCP.out HAB2.out
              repeat (go_big_quiet_step (fail))
              refine wpQuiet_nil ?_
              clear u0
              go_wp2_with (go_at_call 10; (with_reducible refine CD.out.mono ?_); rintro e w4 ⟨rfl, hr, hk⟩; have HR4 := Lib.hid hr; have HK4 := Lib.hid hk; clear hr hk)
              refine norm_up (hK1 _ _ (HK4.out.mono fun _ _ h => .inl h) (st_cons fun K2 hK2 => wpQuiet_nil ?_))
              clear hK1 K1
              go_wp2_with (go_at_call 15; (with_reducible refine (CR.out _ HK4.out).mono ?_); rintro e w5 ⟨rfl, hr, hk⟩; have HR5 := Lib.hid hr; have HK5 := Lib.hid hk; clear hr hk)
              refine norm_up (hK2 _ _ (HK5.out.mono fun _ _ h => .inr h) (st_nil fun K4 hK4 => ?_))
              clear hK2 K2
              repeat (go_big_quiet_step (fail))
              refine wpQuiet_nil (hK4 _ ?_)
              clear hK4 K4
              go_wp2
              go_meet
              exact ⟨_, HTD.out.op HAP.out HR4.out HK4.out HR5.out HK5.out HWL.out⟩
            · obtain rfl : K = 6 := by omega
              have CD := Lib.hid (gdrain_any HT.out.a)
              have CR : Hid (∀ wy, Kept (RF B B wr) wr wy → Calls Try.prog 16 #[.pointer (some ⟨m, 0, none⟩)] wy (QPost m (· = B) wy zs [])) := fun wy hk => qdrain_any (HT.out.mid hk)
              have HTL : Hid (zs.length ≤ 100000) := Nat.le_trans HT.out.l (by omega)
              clear hK0 hK7 hk5 hk6
              go_wp2_with (first
                | (go_at_call 11; (with_reducible refine CD.out.mono ?_); rintro e w4 ⟨A4, c4, rfl, hs, hn, hr, hk⟩; have HR4 := Lib.hid hr; have HK4 := Lib.hid hk; have HS4 := Lib.hid hs; have HN4 := Lib.hid (fun x (hx : A4 = some x) (hm : x.block = m) => (by have h1 := hn x hx; have h2 := HT.out.low.2; omega : False)); clear hs hn hr hk)
                | (go_at_call 16; (with_reducible refine (CR.out _ HK4.out).mono ?_); rintro e w5 ⟨A5, c5, rfl, hs, hr, hk⟩; have HR5 := Lib.hid hr; have HK5 := Lib.hid hk; have HS5 := Lib.hid hs; have HS6 := Lib.hid (sl_at HS4.out hk HN4.out); clear hs hr hk)
                | (go_at_call 13; (with_reducible refine (ints_true A4 A5 zs.length c4 c5 _ _ _ HTL.out HS6.out HS5.out).mono ?_); rintro e w6 ⟨rfl, hk⟩; have HK6 := Lib.hid hk; clear hk))
              go_meet
              exact ⟨_, (HT.out.op HAP.out HR4.out HK4.out HR5.out HK5.out (Nat.zero_le _)).grow HK6.out⟩
        case rest =>
          obtain ⟨us, htw⟩ := hcut
          have HT1 := Lib.hid htw
          have hjz : (j : Int) < (len0 : Int) := by have := HJ.out; omega
          obtain ⟨A, c, hrow, _⟩ := htw.r.hd
          have hcc := hrow.cell (i := 0) (by omega)
          have hLz : (us.length : Int) ≤ 7 := by have := htw.l; omega
          have CL := Lib.hid (glen_any (HT1.out.grow (Kept.drew' wc)).a)
          clear hrow htw
          have HT2 := Lib.hid (HT1.out.grow (Kept.drew' wc))
          have hcd : wc.drew.cell? ⟨m, 0, none⟩ = some (.slice A us.length c) := hcc
          have HCD := Lib.hid hcd
          clear hcc hcd
          go_upto_region 18 with (fail)
          refine wp_region_stages Grow (kept_refl _) (kept_trans _) [([0, 2, 3, 4, 5, 6], 1)] [7] (by kernel_rfl) (by kernel_rfl) ?_
          simp only [selSt, sel, List.map_cons, List.map_nil, List.getD_cons_succ, List.getD_cons_zero]
          refine st_cons fun K1 hK1 => ?_
          have u0 := up_cell (F := fun _ => False) (w := wc.drew) HCD.out id
          repeat (go_big_quiet_step (fail))
          refine wpQuiet_nil ?_
          clear u0
          go_wp2_with (go_at_call 17; (with_reducible refine CL.out.mono ?_); rintro e w' ⟨rfl, rfl⟩)
          refine norm_up (hK1 _ _ (Kept.refl _ _) (st_nil fun K4 hK4 => ?_))
          clear hK1 K1
          repeat (go_big_quiet_step (fail))
          refine wpQuiet_nil (hK4 _ ?_)
          clear hK4 K4
          go_wp2
          go_roundg (len0 - (j + 1))
          case measure => have := HG.out; omega
          case rel => exact ⟨j + 1, by have := HG.out; have := HJ.out; omega, by go_num, us, HT2.out⟩
      · obtain rfl : j = len0 := by have := HG.out; omega
        go_wp2_with (go_at_call 12; (with_reducible refine (told_any _).mono ?_); rintro e w3 ⟨rfl, hge⟩; have HGE := Lib.hid hge; clear hge)
        go_ret
        exact ⟨rfl, Grow.below (HT.out.g.trans HGE.out)⟩

/-! ### THE ROW's STEP: WRITTEN OUT: LEAVE IT -/
set_option maxRecDepth 100000 in
theorem lifted (os : Os) (started : os.Started) (H : Type) (enc : TypeId × Value → H) :
    ReturnsInHanded {} Try.checked os 4 .any (Rows.ringPlaysSpec.pre6 enc Try.prog Try.f4 Rows.ringPlaysRow.domain false) (Rows.ringPlaysSpec.post enc Try.prog Try.f4 false true false false) := by
  refine returnsInHanded_of_change (C := Try.checked) own started (by kernel_rfl) Try.func4
    (ChangeSpec.witness6 (enc := enc) (C := Try.checked) false ⟨#[], #[.slice none 0 0], []⟩ 8 (by kernel_rfl) (by kernel_rfl) (by kernel_rfl) (by kernel_rfl)) ?_
  intro W base args ds gs before hval0 hW hcnd _
  have hval : ∀ (j : Nat) t v, Try.f4.params[j]? = some t → args[j]? = some v → Value.okWide Try.prog W .any base t v := hval0
  have hW' := hW
  obtain ⟨p, q, hA0, hV, rfl, hfz, hnd⟩ := hW
  have hA : DataW.TrodAll enc Try.prog W 0 (fun _ => true) true Try.f4.params.toList args.toList ds p := hA0
  rw [Try.params4] at hA hval
  obtain ⟨v0, vs0, d0, ds0, p0, q0, hargs, rfl, rfl, h0, r0⟩ := trodAll_cons hA
  obtain ⟨rfl, rfl, rfl⟩ := trodAll_nil r0
  obtain rfl : args = #[v0] := by cases args; simp_all
  obtain ⟨rfl, rfl⟩ := trodVars_none hV
  obtain ⟨a0, len0, cap0, rfl⟩ := okWide_slice Try.underlying31 (hval 0 31 v0 rfl rfl)
  have k0 := h0
  have lt0 : ∀ x ∈ p0, x.block < W.heap.size := by obtain ⟨m, hm⟩ := k0; exact DataW.trod_lt m _ _ _ hm
  have w0 : OpsAt W a0 len0 cap0 := by obtain ⟨fuel, hf⟩ := h0; exact ops_open hf
  clear hA0 hval0
  refine (walk a0 len0 cap0 W w0).mono fun e W' ⟨he, bel⟩ => ?_
  subst he
  exact ⟨_, rfl, _, _, _, [], _, [], hW', trodAll_mk1 (shut_bool Try.underlying4 _), (trodAll_cons_mk (Below.trod laidOut (by kernel_rfl) (of_decide_eq_true (by kernel_rfl)) k0 bel lt0) trodAll_mk0), rfl, bel.frame _, fun h => by cases h⟩

theorem over : Rows.ringPlaysRow.holds Try.pinned (OpenSpec.ofChange Rows.ringPlaysSpec) :=
  OpenClaim.holds_of_wide 4 Try.f4 rfl rfl rfl rfl rfl rfl rfl ⟨rfl, rfl, rfl, rfl, rfl⟩ rfl rfl rfl rfl rfl (by kernel_rfl) Try.func4 (by kernel_rfl)
    (of_decide_eq_true (by kernel_rfl)) (by unfold Func.isWrapper; first | (rw [if_pos (by decide +kernel)]; kernel_rfl) | (rw [if_neg (by decide +kernel)]; exact ⟨rfl, rfl⟩))
    (fun os started H enc _ => lifted os started H enc)

/-- ████ THE STATEMENT ████ -/
theorem proved : Rows.RingPlaysSaid := over
#print axioms proved
end Go.Proofs.Ytodmjclkfadooaa.ringPlays
